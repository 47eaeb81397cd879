
/- Contracts of package name, fifth part: Text; Same of the checker's kit at names; lives. -/
import Derived.Test.YtekjmgdockfaiaaDoorNameD
import Derived.Test.YtekjmgdockfaiaaDoorShelf
namespace Go.Proofs.YtekjmgdockfaiaaDoor
open Go.ChangeShapes Go.WideShapes Go.ChangeAt Go.RowKit

/-- The digits of a number. -/
def dig (t : Int) : List UInt8 := Lib.decDigits t.toNat
def txtL (t r : Int) : List UInt8 := if lvl t r = 0 then [100, 98] else if lvl t r = 1 then 116 :: dig t else if lvl t r = 2 then 116 :: (dig t ++ (46 :: 114 :: dig r)) else [63]
def txt (t r : Int) : ByteArray := ⟨(txtL t r).toArray⟩
theorem itoa_small (t : Int) (w : World) (h0 : 0 ≤ t) (h1 : t < 100) :
    Calls Tryd.prog 23 #[.int .i64 t] w fun e w' => e = .returned (.string ⟨(dig t).toArray⟩) ∧ w = w' := by
  obtain ⟨i, rfl⟩ := Int.eq_ofNat_of_zero_le h0
  exact (Tryd.strconv_Itoa_small i (by omega) w).mono fun _ _ ⟨he, hw⟩ => ⟨he, hw.symm⟩
theorem itoa_small' (t : Int) (w : World) (h0 : 0 ≤ t) (h1 : t < 100) :
    Calls Tryd.prog 23 #[.int .i64 t] w fun e w' => e = .returned (.string ⟨(dig t).toArray⟩) ∧ w' = w :=
  (itoa_small t w h0 h1).mono fun _ _ ⟨he, hw⟩ => ⟨he, hw.symm⟩
theorem cat (a b : List UInt8) : (⟨a.toArray⟩ : ByteArray) ++ ⟨b.toArray⟩ = ⟨(a ++ b).toArray⟩ := by
  apply ByteArray.ext
  rw [ByteArray.data_append]
  simp
theorem retS {a b : ByteArray} (h : a = b) : Ending.returned (.string a) = .returned (.string b) := by rw [h]
theorem dig_len (t : Int) (h0 : 0 ≤ t) (h1 : t < 100) : (dig t).length ≤ 2 := by
  unfold dig
  by_cases h : t.toNat < 10
  · rw [Lib.decDigits_one h]; simp
  · rw [Lib.decDigits_two h (by omega)]; simp

set_option maxHeartbeats 400000 in
theorem text_db (w : World) :
    Calls Tryd.prog 26 #[.agg #[.int .i64 (-1), .int .i64 (-1)]] w fun e w' => e = .returned (.string ⟨#[100, 98]⟩) ∧ Nw w w' := by
  go_enter Tryd.func26, Tryd.ntmps26
  go_wp2_with (go_at_call 32; refine (level_db _).mono ?_; rintro e w' ⟨rfl, hg⟩)
  go_ret
  exact ⟨rfl, ((Nw.refl _).alloc _).trans hg⟩
set_option maxHeartbeats 400000 in
theorem text_bad (t r : Int) (w : World) (h : lvl t r = -1) :
    Calls Tryd.prog 26 #[.agg #[.int .i64 t, .int .i64 r]] w fun e w' => e = .returned (.string ⟨#[63]⟩) ∧ Nw w w' := by
  have H := Lib.hid h
  clear h
  go_enter Tryd.func26, Tryd.ntmps26
  go_wp2_with (go_at_call 32; refine (level_val _ _ _ _ H.out).mono ?_; rintro e w' ⟨rfl, hg⟩)
  go_ret
  exact ⟨rfl, ((Nw.refl _).alloc _).trans hg⟩
set_option maxHeartbeats 400000 in
theorem text_tab (t : Int) (w : World) (h0 : 0 ≤ t) (h1 : t < 100) :
    Calls Tryd.prog 26 #[.agg #[.int .i64 t, .int .i64 (-1)]] w fun e w' => e = .returned (.string ⟨(116 :: dig t).toArray⟩) ∧ Nw w w' := by
  have hd := dig_len t h0 h1
  go_enter Tryd.func26, Tryd.ntmps26
  go_wp2_with (first | (go_at_call 32; refine (level_tab _ _ h0 h1).mono ?_; rintro e w' ⟨rfl, hg⟩; obtain ⟨hc, hf⟩ := hg.rules) | (go_at_call 23; refine (itoa_small _ _ h0 h1).mono ?_; rintro e w' ⟨rfl, rfl⟩))
  go_ret
  exact ⟨retS (by rw [cat]; rfl), ((Nw.refl _).alloc _).trans hg⟩
set_option maxHeartbeats 400000 in
theorem text_rec (t r : Int) (w : World) (h0 : 0 ≤ t) (h1 : t < 100) (h2 : 0 ≤ r) (h3 : r < 100) :
    Calls Tryd.prog 26 #[.agg #[.int .i64 t, .int .i64 r]] w fun e w' => e = .returned (.string ⟨(116 :: (dig t ++ (46 :: 114 :: dig r))).toArray⟩) ∧ Nw w w' := by
  have hd := dig_len t h0 h1
  have hd2 := dig_len r h2 h3
  have g1 : ¬ 9223372036854775807 < 1 + (dig t).length := by omega
  have g2 : ¬ 9223372036854775807 < 1 + (dig t).length + 2 := by omega
  have g3 : ¬ 9223372036854775807 < 1 + (dig t).length + 2 + (dig r).length := by omega
  clear hd hd2
  go_enter Tryd.func26, Tryd.ntmps26
  go_wp2_with (go_at_call 32; refine (level_rec _ _ _ h0 h1 h2 h3).mono ?_; rintro e w' ⟨rfl, hg⟩; obtain ⟨hc, hf⟩ := hg.rules)
  have hS := box_step hg (box_start' w t r 26)
  clear hc hf
  go_region_held3 (fun w' => w'.cell? ⟨w.heap.size, 0, none⟩ = some (.int .i64 t) ∧ w'.cell? ⟨w.heap.size, 1, none⟩ = some (.int .i64 r) ∧ (w.heap.size < w'.heap.size ∧ Nw w w')) (first | assumption | exact box_step (Nw.refl _).drew1 hS)
    (first | (go_at_call_of 23 (Value.int .i64 t); refine (itoa_small _ _ h0 h1).mono ?_; rintro e w' ⟨rfl, rfl⟩) | (go_at_call_of 23 (Value.int .i64 r); refine (itoa_small _ _ h2 h3).mono ?_; rintro e w' ⟨rfl, rfl⟩))
  all_goals
    rename_i hS2
    go_wp2
    go_ret
    exact ⟨retS (by rw [cat [116] (dig t)]; rw [cat _ [46, 114]]; rw [cat]; simp), hS2.2.2.2⟩
theorem txt_db : txt (-1) (-1) = ⟨#[100, 98]⟩ := rfl
theorem txt_tab (t : Int) (h0 : 0 ≤ t) (h1 : t < 100) : txt t (-1) = ⟨(116 :: dig t).toArray⟩ := by unfold txt txtL; rw [lvl_tab t h0 h1]; rfl
theorem txt_rec (t r : Int) (h0 : 0 ≤ t) (h1 : t < 100) (h2 : 0 ≤ r) (h3 : r < 100) : txt t r = ⟨(116 :: (dig t ++ (46 :: 114 :: dig r))).toArray⟩ := by unfold txt txtL; rw [lvl_rec t r h0 h1 h2 h3]; rfl
theorem txt_bad (t r : Int) (h : lvl t r = -1) : txt t r = ⟨#[63]⟩ := by unfold txt txtL; rw [h]; rfl
theorem text_any (t r : Int) (w : World) :
    Calls Tryd.prog 26 #[.agg #[.int .i64 t, .int .i64 r]] w fun e w' => e = .returned (.string (txt t r)) ∧ Nw w w' := by
  rcases kinds t r with ⟨rfl, rfl⟩ | ⟨h0, h1, rfl⟩ | ⟨h0, h1, h2, h3⟩ | h
  · rw [txt_db]; exact text_db w
  · rw [txt_tab t h0 h1]; exact text_tab t w h0 h1
  · rw [txt_rec t r h0 h1 h2 h3]; exact text_rec t r w h0 h1 h2 h3
  · rw [txt_bad t r h]; exact text_bad t r w h

end Go.Proofs.YtekjmgdockfaiaaDoor
