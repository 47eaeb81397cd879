
/- Texts of events: a call's begin. -/
import Derived.Test.YtekjmgdockfaiaaDoorHsTB
import Derived.Test.YtekjmgdockfaiaaDoorModeA
namespace Go.Proofs.YtekjmgdockfaiaaDoor
open Go.ChangeShapes Go.WideShapes Go.ChangeAt Go.RowKit
set_option linter.unusedVariables false      -- a contract need not use every name

def mtxL : List ByteArray := [⟨#[110, 111, 110, 101]⟩, ⟨#[73, 83]⟩, ⟨#[73, 88]⟩, ⟨#[83]⟩, ⟨#[83, 73, 88]⟩, ⟨#[85]⟩, ⟨#[88]⟩]
def mtxTab : Array Value := (mtxL.map Value.string).toArray
def mtxT (m : Int) : ByteArray := mtxL.getD m.toNat ByteArray.empty
theorem mtxTab_at (a : Int) (ha : 0 ≤ a) (ha' : a < 7) : mtxTab[a.toNat]? = some (.string (mtxT a)) := by
  have h : a.toNat < mtxL.length := by show _ < 7; omega
  unfold mtxTab mtxT
  simp [List.getElem?_eq_getElem h, List.getD]
theorem mtxInfo : (Tryd.prog.info? 69).map (·.size) = some 7 := by kernel_rfl
theorem mtxOne : mtxTab.all (·.oneCell') = true := by kernel_rfl
set_option maxHeartbeats 400000 in
theorem mtext_in (a : Int) (w : World) (ha : 0 ≤ a) (ha' : a < 7) :
    Calls Tryd.prog 27 #[.int .i64 a] w fun e w' => e = .returned (.string (mtxT a)) ∧ Nw w w' := by
  have hT := mtxTab_at a ha ha'
  go_enter Tryd.func27, Tryd.ntmps27
  go_wp2_with (first | (go_at_call 33; refine (known_yes _ _ (by omega) (by omega)).mono ?_; rintro e w' ⟨rfl, rfl⟩) | (refine wpList_store_row rfl 69 _ _ rfl _ mtxTab rfl rfl 69 _ (heap_alloc_last _ _) mtxInfo rfl mtxOne ?_; rw [World.setRow_alloc_new]))
  go_ret
  exact ⟨rfl, (Nw.refl _).alloc _⟩
theorem mtext_s (w : World) : Calls Tryd.prog 27 #[.int .i64 3] w fun e w' => e = .returned (.string ⟨#[83]⟩) ∧ Nw w w' :=
  mtext_in 3 w (by decide) (by decide)
theorem mtext_none (w : World) : Calls Tryd.prog 27 #[.int .i64 0] w fun e w' => e = .returned (.string ⟨#[110, 111, 110, 101]⟩) ∧ Nw w w' :=
  mtext_in 0 w (by decide) (by decide)
set_option maxHeartbeats 16000000 in
set_option maxRecDepth 100000 in
theorem text_begin (w : World) : Calls Tryd.prog 15 #[evV ⟨0, 0, true, ⟨1, 4, 1, -1, 3, 0⟩⟩] w fun e w' => e = .returned (.string ⟨#[116, 48, 32, 99, 48, 32, 97, 99, 113, 117, 105, 114, 101, 32, 120, 52, 32, 116, 49, 32, 83]⟩) ∧ Nw w w' := by
  have hS := ebox_start w 0 0 true 1 4 1 (-1) 3 0 31
  go_enter Tryd.func15, Tryd.ntmps15
  go_wp2
  go_region_held3 (fun w' => (w'.cell? ⟨w.heap.size, 0, none⟩ = some (.int .i64 0) ∧ w'.cell? ⟨w.heap.size, 1, none⟩ = some (.int .i64 0) ∧ w'.cell? ⟨w.heap.size, 2, none⟩ = some (.bool true) ∧ w'.cell? ⟨w.heap.size, 3, none⟩ = some (.int .i64 1) ∧ w'.cell? ⟨w.heap.size, 4, none⟩ = some (.int .i64 4) ∧ w'.cell? ⟨w.heap.size, 5, none⟩ = some (.int .i64 1) ∧ w'.cell? ⟨w.heap.size, 6, none⟩ = some (.int .i64 (-1)) ∧ w'.cell? ⟨w.heap.size, 7, none⟩ = some (.int .i64 3) ∧ w'.cell? ⟨w.heap.size, 8, none⟩ = some (.int .i64 0) ∧ (w.heap.size < w'.heap.size ∧ Nw w w'))) (first | assumption | exact ebox_step (Nw.refl _).drew1 (by assumption) | exact ebox_step (by assumption) (by assumption))
    (first | (go_at_call 23; refine (it_0 _).mono ?_; rintro e w' ⟨rfl, rfl⟩))
  all_goals
    rename_i hS2
    clear hS
    go_wp2
    go_region_held3 (fun w' => (w'.cell? ⟨w.heap.size, 0, none⟩ = some (.int .i64 0) ∧ w'.cell? ⟨w.heap.size, 1, none⟩ = some (.int .i64 0) ∧ w'.cell? ⟨w.heap.size, 2, none⟩ = some (.bool true) ∧ w'.cell? ⟨w.heap.size, 3, none⟩ = some (.int .i64 1) ∧ w'.cell? ⟨w.heap.size, 4, none⟩ = some (.int .i64 4) ∧ w'.cell? ⟨w.heap.size, 5, none⟩ = some (.int .i64 1) ∧ w'.cell? ⟨w.heap.size, 6, none⟩ = some (.int .i64 (-1)) ∧ w'.cell? ⟨w.heap.size, 7, none⟩ = some (.int .i64 3) ∧ w'.cell? ⟨w.heap.size, 8, none⟩ = some (.int .i64 0) ∧ (w.heap.size < w'.heap.size ∧ Nw w w'))) (first | assumption | exact ebox_step (Nw.refl _).drew1 (by assumption) | exact ebox_step (by assumption) (by assumption))
      (first | (go_at_call 23; refine (it_4 _).mono ?_; rintro e w' ⟨rfl, rfl⟩) | (go_at_call 25; refine (kindText_1 _).mono ?_; rintro e w' ⟨rfl, hg⟩) | (go_at_call 26; refine (name_t1 _).mono ?_; rintro e w' ⟨rfl, hg⟩) | (go_at_call 27; refine (mtext_s _).mono ?_; rintro e w' ⟨rfl, hg⟩))
  all_goals
    rename_i hS3
    have hN := hS3.2.2.2.2.2.2.2.2.2.2
    go_wp2
    go_ret
    exact ⟨rfl, hN⟩
end Go.Proofs.YtekjmgdockfaiaaDoor
