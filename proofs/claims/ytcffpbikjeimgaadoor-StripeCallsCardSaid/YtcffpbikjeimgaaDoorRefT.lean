
/- Contracts of the reference's functions on names, second part: digits, Text. -/
import Derived.Test.YtcffpbikjeimgaaDoorRefA
import Derived.Test.YtcffpbikjeimgaaDoorNameE
import Derived.Test.YtcffpbikjeimgaaDoorRegion
namespace Go.Proofs.YtcffpbikjeimgaaDoor
open Go.ChangeShapes Go.WideShapes Go.ChangeAt Go.RowKit

def tens : ByteArray := ⟨#[48, 49, 50, 51, 52, 53, 54, 55, 56, 57]⟩
theorem ten_one : ∀ i < 10, tens.extract i (i + 1) = ⟨([UInt8.ofNat (48 + i)] : List UInt8).toArray⟩ := by decide +kernel
theorem digits_any (t : Int) (w : World) (h0 : 0 ≤ t) (h1 : t < 100) :
    Calls Tryd.prog 30 #[.int .i64 t] w fun e w' => e = .returned (.string ⟨(dig t).toArray⟩) ∧ Nw w w' := by
  obtain ⟨n, rfl⟩ := Int.eq_ofNat_of_zero_le h0
  have h : n < 100 := by omega
  by_cases h2 : n < 10
  · have e : tens.extract n (n + 1) = ⟨(dig n).toArray⟩ := by
      rw [ten_one n h2]; unfold dig; rw [show ((n : Int)).toNat = n by omega, Lib.decDigits_one h2]
    have E := Lib.hid e
    clear h0 h1 e
    go_enter Tryd.func30, Tryd.ntmps30
    go_wp2
    go_ret
    exact ⟨retS E.out, Nw.refl _⟩
  · have e : tens.extract (n / 10) (n / 10 + 1) ++ tens.extract (n % 10) (n % 10 + 1) = ⟨(dig n).toArray⟩ := by
      rw [ten_one (n / 10) (by omega), ten_one (n % 10) (by omega), cat]
      unfold dig; rw [show ((n : Int)).toNat = n by omega, Lib.decDigits_two h2 h]; rfl
    have E := Lib.hid e
    have h3 : 10 ≤ n := by omega
    clear h0 h1 h2 e
    go_enter Tryd.func30, Tryd.ntmps30
    go_wp2
    go_quiet (fail)
    go_wp2
    go_ret
    exact ⟨retS E.out, (Nw.refl _).drewN _⟩

set_option maxHeartbeats 400000 in
theorem refText_db (w : World) :
    Calls Tryd.prog 26 #[.agg #[.int .i64 (-1), .int .i64 (-1)]] w fun e w' => e = .returned (.string ⟨#[100, 98]⟩) ∧ Nw w w' := by
  go_enter Tryd.func26, Tryd.ntmps26
  go_wp2_with (go_at_call 27; refine (refLevel_db _).mono ?_; rintro e w' ⟨rfl, hg⟩)
  go_ret
  exact ⟨rfl, ((Nw.refl _).alloc _).trans hg⟩
set_option maxHeartbeats 400000 in
theorem refText_bad (t r : Int) (w : World) (h : lvl t r = -1) :
    Calls Tryd.prog 26 #[.agg #[.int .i64 t, .int .i64 r]] w fun e w' => e = .returned (.string ⟨#[63]⟩) ∧ Nw w w' := by
  have H := Lib.hid h
  clear h
  go_enter Tryd.func26, Tryd.ntmps26
  go_wp2_with (go_at_call 27; refine (refLevel_val _ _ _ _ H.out).mono ?_; rintro e w' ⟨rfl, hg⟩)
  go_ret
  exact ⟨rfl, ((Nw.refl _).alloc _).trans hg⟩
set_option maxHeartbeats 400000 in
theorem refText_tab (t : Int) (w : World) (h0 : 0 ≤ t) (h1 : t < 100) :
    Calls Tryd.prog 26 #[.agg #[.int .i64 t, .int .i64 (-1)]] w fun e w' => e = .returned (.string ⟨(116 :: dig t).toArray⟩) ∧ Nw w w' := by
  have hd := dig_len t h0 h1
  go_enter Tryd.func26, Tryd.ntmps26
  go_wp2_with (first | (go_at_call 27; refine (refLevel_tab _ _ h0 h1).mono ?_; rintro e w' ⟨rfl, hg⟩; obtain ⟨hc, hf⟩ := hg.rules) | (go_at_call 30; refine (digits_any _ _ h0 h1).mono ?_; rintro e w3 ⟨rfl, hg3⟩))
  go_ret
  exact ⟨retS (by rw [cat]; rfl), (((Nw.refl _).alloc _).trans hg).trans hg3⟩
set_option maxHeartbeats 1000000 in
theorem refText_rec (t r : Int) (w : World) (h0 : 0 ≤ t) (h1 : t < 100) (h2 : 0 ≤ r) (h3 : r < 100) :
    Calls Tryd.prog 26 #[.agg #[.int .i64 t, .int .i64 r]] w fun e w' => e = .returned (.string ⟨(116 :: (dig t ++ (46 :: 114 :: dig r))).toArray⟩) ∧ Nw w w' := by
  have hd := dig_len t h0 h1
  have hd2 := dig_len r h2 h3
  have g1 : ¬ 9223372036854775807 < 1 + (dig t).length := by omega
  have g2 : ¬ 9223372036854775807 < 1 + (dig t).length + 2 := by omega
  have g3 : ¬ 9223372036854775807 < 1 + (dig t).length + 2 + (dig r).length := by omega
  clear hd hd2
  go_enter Tryd.func26, Tryd.ntmps26
  go_wp2_with (go_at_call 27; refine (refLevel_rec _ _ _ h0 h1 h2 h3).mono ?_; rintro e w' ⟨rfl, hg⟩)
  have hS := box_step hg (box_start' w t r 24)
  refine region_in (fun w' => w'.cell? ⟨w.heap.size, 0, none⟩ = some (.int .i64 t) ∧ w'.cell? ⟨w.heap.size, 1, none⟩ = some (.int .i64 r) ∧ (w.heap.size < w'.heap.size ∧ Nw w w')) (by kernel_rfl) (by kernel_rfl) (box_step (Nw.refl _).drew1 hS) ?_
  have c0 : ∀ d : Wd (fun w' => w'.cell? ⟨w.heap.size, 0, none⟩ = some (.int .i64 t) ∧ w'.cell? ⟨w.heap.size, 1, none⟩ = some (.int .i64 r) ∧ (w.heap.size < w'.heap.size ∧ Nw w w')), d.w.cell? ⟨w.heap.size, 0, none⟩ = some (.int .i64 t) := fun d => d.h.1
  have c1 : ∀ d : Wd (fun w' => w'.cell? ⟨w.heap.size, 0, none⟩ = some (.int .i64 t) ∧ w'.cell? ⟨w.heap.size, 1, none⟩ = some (.int .i64 r) ∧ (w.heap.size < w'.heap.size ∧ Nw w w')), d.w.cell? ⟨w.heap.size, 1, none⟩ = some (.int .i64 r) := fun d => d.h.2.1
  have hne : Nonempty (Wd (fun w' => w'.cell? ⟨w.heap.size, 0, none⟩ = some (.int .i64 t) ∧ w'.cell? ⟨w.heap.size, 1, none⟩ = some (.int .i64 r) ∧ (w.heap.size < w'.heap.size ∧ Nw w w'))) := ⟨⟨_, hS⟩⟩
  repeat (first | go_big_quiet_step ((first | exact quietN (fun _ _ h g => box_step g h) (digits_any _ _ h0 h1) | exact quietN (fun _ _ h g => box_step g h) (digits_any _ _ h2 h3))) | quiet_step ((first | exact quietN (fun _ _ h g => box_step g h) (digits_any _ _ h0 h1) | exact quietN (fun _ _ h g => box_step g h) (digits_any _ _ h2 h3))))
  refine wpQuiet_nil ?_
  intro d
  have h5 := d.h.2.2.2
  clear c0 c1 hne hS
  revert h5
  generalize d.w = w5
  intro h5
  go_wp2
  go_ret
  exact ⟨retS (by rw [cat [116] (dig t)]; rw [cat _ [46, 114]]; rw [cat]; simp), h5⟩
theorem refText_any (t r : Int) (w : World) :
    Calls Tryd.prog 26 #[.agg #[.int .i64 t, .int .i64 r]] w fun e w' => e = .returned (.string (txt t r)) ∧ Nw w w' := by
  rcases kinds t r with ⟨rfl, rfl⟩ | ⟨h0, h1, rfl⟩ | ⟨h0, h1, h2, h3⟩ | h
  · rw [txt_db]; exact refText_db w
  · rw [txt_tab t h0 h1]; exact refText_tab t w h0 h1
  · rw [txt_rec t r h0 h1 h2 h3]; exact refText_rec t r w h0 h1 h2 h3
  · rw [txt_bad t r h]; exact refText_bad t r w h
end Go.Proofs.YtcffpbikjeimgaaDoor
