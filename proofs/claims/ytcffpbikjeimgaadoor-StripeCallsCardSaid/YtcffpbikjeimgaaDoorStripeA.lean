
/- Contracts of package stripe, and of the document's own answers: Hash, Of, Same; lives. -/
import Derived.Test.YtcffpbikjeimgaaDoorSum
import Derived.Test.YtcffpbikjeimgaaDoorRefT
import Derived.Test.YtcffpbikjeimgaaDoorWrap
namespace Go.Proofs.YtcffpbikjeimgaaDoor
open Go.ChangeShapes Go.WideShapes Go.ChangeAt Go.RowKit

theorem txtL_len (t r : Int) : (txtL t r).length ≤ 1000 := by
  rcases kinds t r with ⟨rfl, rfl⟩ | ⟨h0, h1, rfl⟩ | ⟨h0, h1, h2, h3⟩ | h
  · decide
  · unfold txtL; rw [lvl_tab t h0 h1]; have := dig_len t h0 h1; simp; omega
  · unfold txtL; rw [lvl_rec t r h0 h1 h2 h3]; have := dig_len t h0 h1; have := dig_len r h2 h3; simp; omega
  · unfold txtL; rw [h]; simp
theorem txt_size (t r : Int) : (txt t r).size ≤ 100000 := by
  have := txtL_len t r
  have e : (txt t r).size = (txtL t r).length := by unfold txt; simp [ByteArray.size]
  omega
theorem txt_toList (t r : Int) : (txt t r).data.toList = txtL t r := by unfold txt; rfl

theorem lives_ok (w : World) : Calls Tryd.prog 7 #[] w fun e w' => e = .returned (.bool true) ∧ Nw w w' := by
  go_enter Tryd.func7, Tryd.ntmps7
  go_wp2_with fail
  refine (sum_any ⟨#[97]⟩ _ (by decide)).mono ?_
  rintro e w1 ⟨rfl, hG⟩
  rw [show (⟨#[97]⟩ : ByteArray).data.toList = [97] from rfl, fnv_a]
  go_wp2_with fail
  refine (sum_any ⟨#[]⟩ _ (by decide)).mono ?_
  rintro e w2 ⟨rfl, hg⟩
  rw [show fnv (⟨#[]⟩ : ByteArray).data.toList = 2166136261 from rfl]
  go_wp2
  go_ret
  exact ⟨rfl, hG.trans hg⟩

/-- The hash of a name. -/
def hsh (t r : Int) : Int := fnv (txtL t r)
theorem hsh_range (t r : Int) : 0 ≤ hsh t r ∧ hsh t r < 4294967296 := fnv_range _
theorem hash_any (t r : Int) (w : World) :
    Calls Tryd.prog 9 #[.agg #[.int .i64 t, .int .i64 r]] w fun e w' => e = .returned (.int .u32 (hsh t r)) ∧ Nw w w' := by
  have HT := Lib.hid (text_any t r)
  have HS := Lib.hid (fun w => sum_any (txt t r) w (txt_size t r))
  have ht := txt_toList t r
  generalize txt t r = T at HT HS ht
  have Ht := Lib.hid ht
  clear ht
  go_enter Tryd.func9, Tryd.ntmps9
  go_wp2_with fail
  refine (HT.out _).mono ?_
  rintro e w1 ⟨rfl, hg⟩
  go_wp2_with fail
  refine (HS.out _).mono ?_
  rintro e w2 ⟨rfl, hg2⟩
  go_wp2
  go_ret
  exact ⟨by rw [Ht.out]; rfl, (((Nw.refl _).alloc _).trans hg).trans hg2⟩
set_option maxHeartbeats 1000000 in
theorem refSum_any (s : ByteArray) (w : World) (hs : s.size ≤ 100000) :
    Calls Tryd.prog 15 #[.string s] w fun e w' => e = .returned (.int .u32 (fnv s.data.toList)) ∧ Nw w w' := by
  have hl : s.data.toList.length = s.size := by simp
  have HL := Lib.hid hl
  clear hl
  have hs' : (s.size : Int) ≤ 100000 := by omega
  go_enter Tryd.func15, Tryd.ntmps15
  go_wp2
  go_loop [3, 4] (fun h i => ∃ k : Nat, k ≤ s.size ∧ i = .int .i64 k ∧ h = .int .u32 (fnv (s.data.toList.take k))) (fun _ i => s.size - (intOf i).toNat)
  case atStart => exact ⟨0, Nat.zero_le _, rfl, rfl⟩
  case round =>
    obtain ⟨k, hk, rfl, rfl⟩ := hrel
    by_cases h : k < s.size
    · have e : fnv (s.data.toList.take (k + 1)) = fnv1 (fnv (s.data.toList.take k)) s[k] := by
        rw [take_more _ k (by rw [HL.out]; exact h), fnv_snoc]
        congr 1
        simp [List.getD, h]
        rfl
      have E := Lib.hid e
      generalize fnv (s.data.toList.take k) = H at *
      clear e
      go_wp2
      go_round
      case rel => exact ⟨k + 1, by omega, by go_num, by rw [E.out, fnv1, fnv_byte]⟩
      case measure => simp [intOf]; omega
    · have hk' : k = s.size := by omega
      have ht : s.data.toList.take k = s.data.toList := by rw [hk', ← HL.out]; exact List.take_length
      rw [ht]
      clear ht
      go_wp2
      go_ret
      exact ⟨rfl, Nw.refl _⟩
theorem refHash_any (t r : Int) (w : World) :
    Calls Tryd.prog 16 #[.agg #[.int .i64 t, .int .i64 r]] w fun e w' => e = .returned (.int .u32 (hsh t r)) ∧ Nw w w' := by
  have HT := Lib.hid (refText_any t r)
  have HS := Lib.hid (fun w => refSum_any (txt t r) w (txt_size t r))
  have ht := txt_toList t r
  generalize txt t r = T at HT HS ht
  have Ht := Lib.hid ht
  clear ht
  go_enter Tryd.func16, Tryd.ntmps16
  go_wp2_with fail
  refine (HT.out _).mono ?_
  rintro e w1 ⟨rfl, hg⟩
  go_wp2_with fail
  refine (HS.out _).mono ?_
  rintro e w2 ⟨rfl, hg2⟩
  go_wp2
  go_ret
  exact ⟨by rw [Ht.out]; rfl, (((Nw.refl _).alloc _).trans hg).trans hg2⟩

/-- The stripe of a name, among so many. -/
def ofS (t r n : Int) : Int := if (1 ≤ n ∧ n ≤ 16) ∧ lvl t r ≠ -1 then hsh t r % n else -1
theorem ofS_yes (t r n : Int) (h0 : 1 ≤ n) (h1 : n ≤ 16) (h : lvl t r ≠ -1) : ofS t r n = hsh t r % n := if_pos ⟨⟨h0, h1⟩, h⟩
theorem ofS_bad (t r n : Int) (h : lvl t r = -1) : ofS t r n = -1 := if_neg (fun e => e.2 h)
theorem ofS_out (t r n : Int) (h : ¬ (1 ≤ n ∧ n ≤ 16)) : ofS t r n = -1 := if_neg (fun e => h e.1)
theorem ofS_range (t r n : Int) : ofS t r n = -1 ∨ (0 ≤ ofS t r n ∧ ofS t r n < n) := by
  by_cases h : (1 ≤ n ∧ n ≤ 16) ∧ lvl t r ≠ -1
  · rw [ofS_yes t r n h.1.1 h.1.2 h.2]
    exact .inr ⟨Int.emod_nonneg _ (by omega), Int.emod_lt_of_pos _ (by omega)⟩
  · exact .inl (if_neg h)
theorem possible_yes (n : Int) (w : World) (h0 : 1 ≤ n) (h1 : n ≤ 16) :
    Calls Tryd.prog 24 #[.int .i64 n] w fun e w' => e = .returned (.bool true) ∧ w = w' := by
  go_enter Tryd.func24, Tryd.ntmps24
  go_wp2
  go_ret
  exact ⟨rfl, rfl⟩
theorem possible_no (n : Int) (w : World) (h : ¬ (1 ≤ n ∧ n ≤ 16)) :
    Calls Tryd.prog 24 #[.int .i64 n] w fun e w' => e = .returned (.bool false) ∧ w = w' := by
  by_cases h0 : 1 ≤ n
  · have h1 : 16 < n := by omega
    have hd : decide (n ≤ 16) = false := by simp; omega
    clear h
    go_enter Tryd.func24, Tryd.ntmps24
    go_wp2
    go_ret
    exact ⟨rfl, rfl⟩
  · have hd : decide (1 ≤ n) = false := by simp; omega
    clear h
    go_enter Tryd.func24, Tryd.ntmps24
    go_wp2
    go_ret
    exact ⟨rfl, rfl⟩
set_option maxHeartbeats 400000 in
theorem of_yes (t r n : Int) (w : World) (h0 : 1 ≤ n) (h1 : n ≤ 16) (h : lvl t r ≠ -1) :
    Calls Tryd.prog 11 #[.agg #[.int .i64 t, .int .i64 r], .int .i64 n] w fun e w' => e = .returned (.int .i64 (hsh t r % n)) ∧ Nw w w' := by
  have HC := Lib.hid (fun w => check_ok t r w h)
  have HH := Lib.hid (fun w => hash_any t r w)
  obtain ⟨r0, r1⟩ := hsh_range t r
  generalize hsh t r = H at *
  have m0 : 0 ≤ H % n := Int.emod_nonneg _ (by omega)
  have m1 : H % n < 16 := Int.lt_of_lt_of_le (Int.emod_lt_of_pos _ (by omega)) h1
  have m2 := Lib.hid (show H.tmod n = H % n from Int.tmod_eq_emod_of_nonneg r0)
  have m3 := Lib.hid (show n % 4294967296 = n by omega)
  clear h
  go_enter Tryd.func11, Tryd.ntmps11
  go_wp2_with fail
  refine (possible_yes _ _ h0 h1).mono ?_
  rintro e w1 ⟨rfl, rfl⟩
  go_wp2_with fail
  refine (HC.out _).mono ?_
  rintro e w2 ⟨rfl, hg⟩
  obtain ⟨hc, hf⟩ := hg.rules
  go_wp2_with fail
  refine (HH.out _).mono ?_
  rintro e w3 ⟨rfl, hg3⟩
  clear hc hf
  go_wp2
  go_ret
  exact ⟨rfl, (((Nw.refl _).alloc _).trans hg).trans hg3⟩
theorem of_bad (t r n : Int) (w : World) (h0 : 1 ≤ n) (h1 : n ≤ 16) (h : lvl t r = -1) :
    Calls Tryd.prog 11 #[.agg #[.int .i64 t, .int .i64 r], .int .i64 n] w fun e w' => e = .returned (.int .i64 (-1)) ∧ Nw w w' := by
  have HC := Lib.hid (fun w => check_no t r w h)
  clear h
  go_enter Tryd.func11, Tryd.ntmps11
  go_wp2_with fail
  refine (possible_yes _ _ h0 h1).mono ?_
  rintro e w1 ⟨rfl, rfl⟩
  go_wp2_with fail
  refine (HC.out _).mono ?_
  rintro e w2 ⟨rfl, hg⟩
  go_wp2
  go_ret
  exact ⟨rfl, ((Nw.refl _).alloc _).trans hg⟩
theorem of_out (t r n : Int) (w : World) (h : ¬ (1 ≤ n ∧ n ≤ 16)) :
    Calls Tryd.prog 11 #[.agg #[.int .i64 t, .int .i64 r], .int .i64 n] w fun e w' => e = .returned (.int .i64 (-1)) ∧ Nw w w' := by
  have H := Lib.hid h
  clear h
  go_enter Tryd.func11, Tryd.ntmps11
  go_wp2_with fail
  refine (possible_no _ _ H.out).mono ?_
  rintro e w1 ⟨rfl, rfl⟩
  go_wp2
  go_ret
  exact ⟨rfl, (Nw.refl _).alloc _⟩
theorem of_any (t r n : Int) (w : World) :
    Calls Tryd.prog 11 #[.agg #[.int .i64 t, .int .i64 r], .int .i64 n] w fun e w' => e = .returned (.int .i64 (ofS t r n)) ∧ Nw w w' := by
  by_cases hn : 1 ≤ n ∧ n ≤ 16
  · by_cases h : lvl t r = -1
    · rw [ofS_bad t r n h]; exact of_bad t r n w hn.1 hn.2 h
    · rw [ofS_yes t r n hn.1 hn.2 h]; exact of_yes t r n w hn.1 hn.2 h
  · rw [ofS_out t r n hn]; exact of_out t r n w hn

theorem refOf_yes (t r n : Int) (w : World) (h0 : 1 ≤ n) (h1 : n ≤ 16) (h : lvl t r ≠ -1) :
    Calls Tryd.prog 17 #[.agg #[.int .i64 t, .int .i64 r], .int .i64 n] w fun e w' => e = .returned (.int .i64 (hsh t r % n)) ∧ Nw w w' := by
  have HC := Lib.hid (fun w => refCheck_ok t r w h)
  have HH := Lib.hid (fun w => refHash_any t r w)
  obtain ⟨r0, r1⟩ := hsh_range t r
  generalize hsh t r = H at *
  have m0 : 0 ≤ H % n := Int.emod_nonneg _ (by omega)
  have m1 : H % n < 16 := Int.lt_of_lt_of_le (Int.emod_lt_of_pos _ (by omega)) h1
  clear h
  go_enter Tryd.func17, Tryd.ntmps17
  go_wp2_with fail
  refine (HC.out _).mono ?_
  rintro e w2 ⟨rfl, hg⟩
  obtain ⟨hc, hf⟩ := hg.rules
  go_wp2_with fail
  refine (HH.out _).mono ?_
  rintro e w3 ⟨rfl, hg3⟩
  clear hc hf
  go_wp2
  go_ret
  exact ⟨rfl, (((Nw.refl _).alloc _).trans hg).trans hg3⟩
theorem refOf_bad (t r n : Int) (w : World) (h : lvl t r = -1) :
    Calls Tryd.prog 17 #[.agg #[.int .i64 t, .int .i64 r], .int .i64 n] w fun e w' => e = .returned (.int .i64 (-1)) ∧ Nw w w' := by
  have HC := Lib.hid (fun w => refCheck_no t r w h)
  clear h
  go_enter Tryd.func17, Tryd.ntmps17
  go_wp2_with fail
  refine (HC.out _).mono ?_
  rintro e w2 ⟨rfl, hg⟩
  go_wp2
  go_ret
  exact ⟨rfl, ((Nw.refl _).alloc _).trans hg⟩
theorem refOf_out (t r n : Int) (w : World) (hn : ¬ (1 ≤ n ∧ n ≤ 16)) (h : lvl t r ≠ -1) :
    Calls Tryd.prog 17 #[.agg #[.int .i64 t, .int .i64 r], .int .i64 n] w fun e w' => e = .returned (.int .i64 (-1)) ∧ Nw w w' := by
  have HC := Lib.hid (fun w => refCheck_ok t r w h)
  clear h
  by_cases h0 : n < 1
  · clear hn
    go_enter Tryd.func17, Tryd.ntmps17
    go_wp2_with fail
    refine (HC.out _).mono ?_
    rintro e w2 ⟨rfl, hg⟩
    go_wp2
    go_ret
    exact ⟨rfl, ((Nw.refl _).alloc _).trans hg⟩
  · have h2 : 16 < n := by omega
    have hd : decide (n < 1) = false := by simp; omega
    have hd2 : decide (16 < n) = true := by simp; omega
    clear hn
    go_enter Tryd.func17, Tryd.ntmps17
    go_wp2_with fail
    refine (HC.out _).mono ?_
    rintro e w2 ⟨rfl, hg⟩
    go_wp2
    go_ret
    exact ⟨rfl, ((Nw.refl _).alloc _).trans hg⟩
theorem refOf_any (t r n : Int) (w : World) :
    Calls Tryd.prog 17 #[.agg #[.int .i64 t, .int .i64 r], .int .i64 n] w fun e w' => e = .returned (.int .i64 (ofS t r n)) ∧ Nw w w' := by
  by_cases h : lvl t r = -1
  · rw [ofS_bad t r n h]; exact refOf_bad t r n w h
  · by_cases hn : 1 ≤ n ∧ n ≤ 16
    · rw [ofS_yes t r n hn.1 hn.2 h]; exact refOf_yes t r n w hn.1 hn.2 h
    · rw [ofS_out t r n hn]; exact refOf_out t r n w hn h

/-- Both have a stripe, and it is the same one. -/
def smS (t r t' r' n : Int) : Bool := decide (ofS t r n ≠ -1 ∧ ofS t r n = ofS t' r' n)
theorem smS_comm (t r t' r' n : Int) : smS t r t' r' n = smS t' r' t r n := by
  unfold smS
  exact decide_eq_decide.2 ⟨fun ⟨a, b⟩ => ⟨b ▸ a, b.symm⟩, fun ⟨a, b⟩ => ⟨b ▸ a, b.symm⟩⟩
theorem same_none (t r t' r' n : Int) (w : World) (h : ofS t r n = -1) :
    Calls Tryd.prog 12 #[.agg #[.int .i64 t, .int .i64 r], .agg #[.int .i64 t', .int .i64 r'], .int .i64 n] w fun e w' => e = .returned (.bool false) ∧ Nw w w' := by
  have H := Lib.hid (of_any t r n)
  rw [h] at H
  clear h
  go_enter Tryd.func12, Tryd.ntmps12
  go_wp2_with fail
  refine (H.out _).mono ?_
  rintro e w2 ⟨rfl, hg⟩
  go_wp2
  go_ret
  exact ⟨rfl, (((Nw.refl _).alloc _).alloc _).trans hg⟩
theorem same_some (t r t' r' n : Int) (w : World) (h : ofS t r n ≠ -1) :
    Calls Tryd.prog 12 #[.agg #[.int .i64 t, .int .i64 r], .agg #[.int .i64 t', .int .i64 r'], .int .i64 n] w fun e w' => e = .returned (.bool (ofS t r n == ofS t' r' n)) ∧ Nw w w' := by
  have H := Lib.hid (of_any t r n)
  have H' := Lib.hid (of_any t' r' n)
  generalize ofS t r n = A at *
  generalize ofS t' r' n = B at *
  have hd : (A == -1) = false := by simpa using h
  have hd2 : (A != -1) = true := by simpa using h
  clear h
  go_enter Tryd.func12, Tryd.ntmps12
  go_wp2_with fail
  refine (H.out _).mono ?_
  rintro e w2 ⟨rfl, hg⟩
  obtain ⟨hc, hf⟩ := hg.rules
  go_wp2_with fail
  refine (H'.out _).mono ?_
  rintro e w3 ⟨rfl, hg3⟩
  clear hc hf
  go_wp2
  go_ret
  exact ⟨rfl, ((((Nw.refl _).alloc _).alloc _).trans hg).trans hg3⟩
theorem same_any (t r t' r' n : Int) (w : World) :
    Calls Tryd.prog 12 #[.agg #[.int .i64 t, .int .i64 r], .agg #[.int .i64 t', .int .i64 r'], .int .i64 n] w fun e w' => e = .returned (.bool (smS t r t' r' n)) ∧ Nw w w' := by
  by_cases h : ofS t r n = -1
  · rw [show smS t r t' r' n = false from decide_eq_false (fun e => e.1 h)]; exact same_none t r t' r' n w h
  · rw [show smS t r t' r' n = (ofS t r n == ofS t' r' n) by unfold smS; rw [Bool.eq_iff_iff, decide_eq_true_eq, beq_iff_eq]; exact ⟨fun e => e.2, fun e => ⟨h, e⟩⟩]; exact same_some t r t' r' n w h
end Go.Proofs.YtcffpbikjeimgaaDoor
