
/- ScriptOps: every input. -/
import Derived.Test.YtmegaipedagcjaaScOpW
namespace Go.Proofs.Ytmegaipedagcjaa.scriptOps
open Go.RowKit
set_option linter.unusedVariables false

set_option maxRecDepth 100000 in
theorem short (l : List UInt8) (a k t r m v x : Int) (W : World) (h : 1600 < l.length) : Calls Try.prog 6 #[stV l, .int .i64 a, .agg #[.int .i64 k, .int .i64 t, .int .i64 r, .int .i64 m, .int .i64 v, .int .i64 x]] W fun e w' => e = .returned (.bool true) ∧ Nw W w' := by
  have d0 : decide ((1600 : Int) < (l.length : Int)) = true := by simp; omega
  go_enter Try.func6, Try.ntmps6
  go_wp2_with (go_at_call 8; refine (lives_ok _).mono ?_; rintro e w1 ⟨rfl, g1⟩)
  go_ret
  exact ⟨rfl, ((Nw.refl W).alloc _).trans g1⟩
theorem lvl_ok {k t r m v x : Int} (h : okO (k, t, r, m, v, x) = true) : lvl t r ≠ -1 := by
  simp only [okO, inB, Bool.and_eq_true, decide_eq_true_eq] at h
  rcases shp_cases k with ⟨hk, e⟩ | ⟨hk, e⟩ | ⟨hk, e⟩ | ⟨hk, e⟩ | ⟨hk, e⟩ | ⟨hk, e⟩ | ⟨hk, e⟩ <;> rw [e] at h <;> simp only [sh0, shR, shW, shS, shL, shU] at h <;> try exact absurd h.1 (by decide)
  all_goals omega
theorem grow_at (T : Nat) (th : List (List Od)) : (grow (T + 1) th).getD T [] = th.getD T [] := by
  unfold grow
  by_cases q : T < th.length
  · rw [getD_app_l _ _ _ _ q]
  · rw [getD_app_r _ _ _ _ (by omega), getD_over th T [] (by omega), List.getD_eq_getElem?_getD, List.getElem?_replicate]
    split <;> rfl
theorem rd_op (B : List UInt8) (hB : B.length % 8 = 0) (R : PS) (hR : rd B = R) (T : Nat) (hT : T < 8) (o : Od) (hq : okO o = true) : rd (B ++ opE (T : Int) o) = ⟨putO T o (grow (T + 1) R.th), R.pk, R.cp⟩ := by
  rw [rd_one B (opE (T : Int) o) hB (by simp [opE]), hR, step_op R T hT o hq]
theorem opE_is (T k t r m v x : Int) : opE T (k, t, r, m, v, x) = [2, bt T, bt k, bt (t + 1), bt (r + 1), bt m, bt v, bt x] := rfl
theorem put_len (T : Nat) (o : Od) (th : List (List Od)) : T < (putO T o (grow (T + 1) th)).length := by rw [putO_len, grow_len]; omega
theorem put_at (T : Nat) (o : Od) (th th' : List (List Od)) (he : th' = putO T o (grow (T + 1) th)) (hT : T < th'.length) (h : (th.getD T []).length < 32) : th'[T] = th.getD T [] ++ [o] := by
  have e : putO T o (grow (T + 1) th) = (grow (T + 1) th).set T (th.getD T [] ++ [o]) := by unfold putO; rw [grow_at, if_pos h]
  rw [e] at he
  subst he
  simp
theorem put_id (T : Nat) (o : Od) (th : List (List Od)) (h : 32 ≤ (th.getD T []).length) : putO T o (grow (T + 1) th) = th := by
  have hT : T < th.length := by
    rcases Nat.lt_or_ge T th.length with q | q
    · exact q
    · rw [getD_over th T [] q] at h; simp at h
  unfold putO
  rw [grow_at, if_neg (by omega), grow_id _ _ (by omega)]
theorem law_any (s0 : ByteArray) (a : Int) (o : Od) (W : World) : Calls Try.prog 6 #[.string s0, .int .i64 a, odV o] W fun e w' => e = .returned (.bool true) ∧ Nw W w' := by
  obtain ⟨l, rfl⟩ : ∃ l : List UInt8, s0 = ⟨l.toArray⟩ := ⟨s0.data.toList, (Lib.mk_data s0).symm⟩
  obtain ⟨k, t, r, m, v, x⟩ := o
  by_cases hl : l.length ≤ 1600
  · have h0 := Int.emod_nonneg a (b := 8) (by omega)
    have h1 := Int.emod_lt_of_pos a (b := 8) (by omega)
    obtain ⟨T, hTe⟩ := Int.eq_ofNat_of_zero_le h0
    have hT : T < 8 := by omega
    have HP : ∀ z, Calls Try.prog 22 #[.int .i64 a, .int .i64 8] z fun e w' => e = .returned (.int .i64 T) ∧ z = w' := fun z => by have := pick_any a 8 z (by omega) (by omega); rw [hTe] at this; exact this
    have hb1 : ((bt (T : Int)).toNat : Int) = T := bt_of _ (by omega) (by omega)
    have hw : ∀ z : Int, IntKind.u8.wrap z = ((bt z).toNat : Int) := fun z => by rw [bt_nat]; exact IntKind.wrap_u8 z
    have hw2 : ∀ z : Int, z % 256 = ((bt z).toNat : Int) := fun z => (bt_nat z).symm
    have HO := fun z => op_any (k, t, r, m, v, x) z
    rcases hq : okO (k, t, r, m, v, x) with _ | _
    · rw [hq] at HO
      exact main_inv l a k t r m v x _ T _ _ _ _ _ _ _ W hl hT (Lib.hid HP) hb1 (hw k) (hw2 _) (hw2 _) (hw m) (hw v) (hw x) (Lib.hid HO) rfl
    · rw [hq] at HO
      obtain ⟨_, ⟨t1, t2, r1, r2⟩, _⟩ := okO_range hq
      have e1 : wrap64 (t + 1) = t + 1 := by unfold wrap64; omega
      have e2 : wrap64 (r + 1) = r + 1 := by unfold wrap64; omega
      have hB := take8 l
      have hBm : (l.take (l.length / 8 * 8)).length % 8 = 0 := by omega
      have hent : ent (opE (T : Int) (k, t, r, m, v, x)) = some (T, (k, t, r, m, v, x)) := ent_op T hT _ hq
      have HE := fun z => entry_e 2 (bt (T : Int)) (bt k) (bt (t + 1)) (bt (r + 1)) (bt m) (bt v) (bt x) z
      have hent' : ent [2, bt (T : Int), bt k, bt (t + 1), bt (r + 1), bt m, bt v, bt x] = some (T, (k, t, r, m, v, x)) := hent
      rw [hent'] at HE
      obtain ⟨R, hR⟩ : ∃ R, rd (l.take (l.length / 8 * 8)) = R := ⟨_, rfl⟩
      have hRo : okS R = true := by rw [← hR]; exact rd_ok _
      have hS := rd_op (l.take (l.length / 8 * 8)) hBm R hR T hT (k, t, r, m, v, x) hq
      rw [opE_is] at hS
      obtain ⟨S, hSd⟩ : ∃ S : PS, S = ⟨putO T (k, t, r, m, v, x) (grow (T + 1) R.th), R.pk, R.cp⟩ := ⟨_, rfl⟩
      rw [← hSd] at hS
      have hth : S.th = putO T (k, t, r, m, v, x) (grow (T + 1) R.th) := by rw [hSd]
      have hpk : S.pk = R.pk := by rw [hSd]
      have hn2 : T < S.th.length := by rw [hth]; exact put_len T _ _
      have f1 : (R.th.getD T []).length < 32 → S.th[T] = R.th.getD T [] ++ [(k, t, r, m, v, x)] := fun h => put_at T _ R.th S.th hth hn2 h
      have f2 : 32 ≤ (R.th.getD T []).length → S = R := fun h => by rw [hSd, put_id T _ _ h]
      have HR1 := Lib.hid (read_as _ R hR (by omega))
      have HR2 := Lib.hid (read_as _ S hS (by simp; omega))
      exact main_ok l a k t r m v x _ T _ _ _ _ _ _ _ (l.take (l.length / 8 * 8)) R S W hl hT (Lib.hid HP) hb1 (hw k)
        (by rw [e1]; exact hw2 _) (by rw [e2]; exact hw2 _) (hw m) (hw v) (hw x) (Lib.hid HO) rfl (lvl_ok hq) (Lib.hid HE) rfl (by omega) HR1 HR2
        (Lib.hid (fits_ok hRo)) hn2 (Lib.hid hpk) (Lib.hid f2) (Lib.hid f1)
  · exact short l a k t r m v x W (by omega)
end Go.Proofs.Ytmegaipedagcjaa.scriptOps
