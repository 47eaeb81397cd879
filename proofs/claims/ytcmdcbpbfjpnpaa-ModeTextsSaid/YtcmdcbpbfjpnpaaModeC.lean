/- Contracts of the functions of package mode, third part: Text, All, Read. -/
import Derived.Test.YtcmdcbpbfjpnpaaModeB
import Derived.LoopTactic
import Derived.WalkSpells
namespace Go.Proofs.Ytcmdcbpbfjpnpaa
open Go.ChangeShapes Go.WideShapes Go.ChangeAt Go.RowKit

/-! ### The texts of the modes -/
def txtL : List ByteArray := [⟨#[110, 111, 110, 101]⟩, ⟨#[73, 83]⟩, ⟨#[73, 88]⟩, ⟨#[83]⟩, ⟨#[83, 73, 88]⟩, ⟨#[85]⟩, ⟨#[88]⟩]
def txtTab : Array Value := (txtL.map Value.string).toArray
def txtT (m : Int) : ByteArray := txtL.getD m.toNat ByteArray.empty
theorem txtTab_at (a : Int) (ha : 0 ≤ a) (ha' : a < 7) : txtTab[a.toNat]? = some (.string (txtT a)) := by
  have h : a.toNat < txtL.length := by show _ < 7; omega
  unfold txtTab txtT
  simp [List.getElem?_eq_getElem h, List.getD]
theorem txtInfo : (Try.prog.info? 45).map (·.size) = some 7 := by kernel_rfl
theorem txtOne : txtTab.all (·.oneCell') = true := by kernel_rfl

set_option maxHeartbeats 400000 in
theorem text_in (a : Int) (w : World) (ha : 0 ≤ a) (ha' : a < 7) :
    Calls Try.prog 18 #[.int .i64 a] w fun e w' => e = .returned (.string (txtT a)) ∧ Nw w w' := by
  have hT := txtTab_at a ha ha'
  go_enter Try.func18, Try.ntmps18
  go_wp2_with (first | (go_at_call 12; refine (known_yes _ _ (by omega) (by omega)).mono ?_; rintro e w' ⟨rfl, rfl⟩) | (refine wpList_store_row rfl 45 _ _ rfl _ txtTab rfl rfl 45 _ (heap_alloc_last _ _) txtInfo rfl txtOne ?_; rw [World.setRow_alloc_new]))
  go_ret
  exact ⟨rfl, (Nw.refl _).alloc _⟩
theorem text_out (a : Int) (w : World) (h : a < 0 ∨ 7 ≤ a) :
    Calls Try.prog 18 #[.int .i64 a] w fun e w' => e = .returned (.string ⟨#[63]⟩) ∧ w = w' := by
  go_enter Try.func18, Try.ntmps18
  go_wp2_with (go_at_call 12; refine (known_no _ _ h).mono ?_; rintro e w' ⟨rfl, rfl⟩)
  go_ret
  exact ⟨rfl, rfl⟩

/-! ### All: a new list of the seven -/
def allRow : Array Value := #[.int .i64 0, .int .i64 1, .int .i64 2, .int .i64 3, .int .i64 4, .int .i64 5, .int .i64 6]
theorem all_any (w : World) :
    Calls Try.prog 11 #[] w fun e w' => e = .returned (.slice (some ⟨w.heap.size, 0, none⟩) 7 7) ∧ w' = w.alloc (.cells allRow 23) := by
  go_enter Try.func11, Try.ntmps11
  go_wp2
  go_ret
  exact ⟨rfl, rfl⟩
theorem allRow_at (k : Nat) (h : k < 7) : allRow[k]? = some (.int .i64 (k : Int)) := by
  rcases (show k = 0 ∨ k = 1 ∨ k = 2 ∨ k = 3 ∨ k = 4 ∨ k = 5 ∨ k = 6 by omega) with rfl | rfl | rfl | rfl | rfl | rfl | rfl <;> rfl

/-- A cell of the block that was made last, in whatever the world has grown to since. -/
theorem cell_kept {w wr : World} {c : Array Value} {t : TypeId} (hg : Nw (w.alloc (.cells c t)) wr) (k : Nat) : wr.cell? ⟨w.heap.size, k, none⟩ = c[k]? := by
  rw [hg.cell (by show _ < (w.heap.push _).size; simp)]
  exact cell_of_row _ _ k c t (0, 0) (heap_alloc_last w _)

/-! ### Read -/
/-- Text j is the string s. -/
def hit (s : ByteArray) (j : Int) : Bool := (txtT j).toList == s.toList
def rdV (K : Nat) : Int := if K < 7 then K else 0
def rdE (K : Nat) : Int := if K < 7 then 0 else 3
set_option maxHeartbeats 400000 in
theorem read_any (s : ByteArray) (K : Nat) (w : World) (hK : K ≤ 7) (hm : ∀ j : Nat, j < K → hit s j = false) (hh : K < 7 → hit s K = true) :
    Calls Try.prog 9 #[.string s] w fun e w' => e = .returned (.tuple #[.int .i64 (rdV K), .int .i64 (rdE K)]) ∧ Nw w w' := by
  go_enter Try.func9, Try.ntmps9
  go_wp2_with fail
  refine (all_any w).mono ?_
  rintro e w1 ⟨rfl, rfl⟩
  go_wp2
  go_loopw [8] (fun i wr => ∃ k : Nat, k ≤ K ∧ i = .int .i64 k ∧ Nw (w.alloc (.cells allRow 23)) wr) (fun i _ => 7 - (intOf i).toNat)
  case atStart => exact ⟨0, Nat.zero_le _, rfl, Nw.refl _⟩
  case round =>
    obtain ⟨k, hk, rfl, hG⟩ := hrel
    have hcell := cell_kept hG k
    rcases (show k < K ∨ (k = K ∧ K < 7) ∨ (k = K ∧ K = 7) by omega) with h | ⟨rfl, h⟩ | ⟨rfl, h⟩
    · have hkk : k < 7 := by omega
      rw [allRow_at k hkk] at hcell
      have hq : ((txtT k).toList == s.toList) = false := hm k h
      go_wp2_with (go_at_call 18; refine (text_in _ _ (by omega) (by omega)).mono ?_; rintro e w' ⟨rfl, hg⟩)
      go_roundw
      case rel => exact ⟨k + 1, by omega, by go_num, Nw.trans hG hg⟩
      case measure => simp [intOf]; omega
    · rw [allRow_at k h] at hcell
      have hq : ((txtT k).toList == s.toList) = true := hh h
      go_wp2_with (go_at_call 18; refine (text_in _ _ (by omega) (by omega)).mono ?_; rintro e w' ⟨rfl, hg⟩)
      go_ret2
      have e1 : rdV k = k := if_pos h
      have e2 : rdE k = 0 := if_pos h
      exact ⟨by rw [e1, e2]; rfl, Nw.trans ((Nw.refl w).alloc _) (Nw.trans hG hg)⟩
    · clear hcell
      subst h
      go_wp2
      go_ret2
      exact ⟨rfl, Nw.trans ((Nw.refl w).alloc _) hG⟩
end Go.Proofs.Ytcmdcbpbfjpnpaa
