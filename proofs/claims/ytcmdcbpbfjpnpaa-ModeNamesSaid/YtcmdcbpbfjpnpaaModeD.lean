/- Contracts over lists of modes: Group of package mode, Same of the checker's kit (at modes). -/
import Derived.Test.YtcmdcbpbfjpnpaaModeC
import Derived.Deep.QuietTactic
import Derived.BigQuiet
namespace Go.Proofs.Ytcmdcbpbfjpnpaa
open Go.ChangeShapes Go.WideShapes Go.ChangeAt Go.RowKit

/-- A number of a known mode. -/
def Md (z : Int) : Prop := 0 ≤ z ∧ z < 7
theorem sup_md_all : ∀ i < 7, ∀ j < 7, (decide (0 ≤ supT (Int.ofNat i) (Int.ofNat j)) && decide (supT (Int.ofNat i) (Int.ofNat j) < 7)) = true := by decide +kernel
theorem sup_md (a b : Int) (ha : Md a) (hb : Md b) : Md (supT a b) := by
  obtain ⟨i, rfl⟩ := Int.eq_ofNat_of_zero_le ha.1
  obtain ⟨j, rfl⟩ := Int.eq_ofNat_of_zero_le hb.1
  have := sup_md_all i (by have := ha.2; omega) j (by have := hb.2; omega)
  simpa [Md] using this
/-- The group of a list. -/
def grpT (l : List Int) : Int := l.foldl supT 0
theorem grp_snoc (l : List Int) (z : Int) : grpT (l ++ [z]) = supT (grpT l) z := by unfold grpT; rw [List.foldl_append]; rfl
theorem grp_md_from (l : List Int) : ∀ a : Int, Md a → (∀ z ∈ l, Md z) → Md (l.foldl supT a) := by
  induction l with
  | nil => intro a ha _; exact ha
  | cons z r ih => intro a ha h; exact ih _ (sup_md a z ha (h z (List.mem_cons_self ..))) (fun y hy => h y (List.mem_cons_of_mem _ hy))
theorem grp_md (l : List Int) (h : ∀ z ∈ l, Md z) : Md (grpT l) := grp_md_from l 0 ⟨by decide, by decide⟩ h
theorem take_snoc (l : List Int) (k : Nat) (h : k < l.length) : l.take (k + 1) = l.take k ++ [l[k]] := List.take_succ_eq_append_getElem h

/-- The cells of a slice over a row that was there when the call began. -/
def Cells (w : World) (b o : Nat) (zs : List Int) : Prop := b < w.heap.size ∧ ∀ k (h : k < zs.length), w.cell? ⟨b, o + k, none⟩ = some (.int .i64 zs[k])
theorem Cells.grown {w w' : World} {b o : Nat} {zs : List Int} (h : Cells w b o zs) (g : Nw w w') : Cells w' b o zs :=
  ⟨Nat.lt_of_lt_of_le h.1 g.sz, fun k hk => (g.cell h.1).trans (h.2 k hk)⟩

set_option maxHeartbeats 400000 in
theorem group_some (b o c : Nat) (zs : List Int) (w : World) (hc : Cells w b o zs) (hm : ∀ z ∈ zs, Md z) (hl : zs.length ≤ 9223372036854775807) :
    Calls Try.prog 16 #[.slice (some ⟨b, o, none⟩) zs.length c] w fun e w' => e = .returned (.int .i64 (grpT zs)) ∧ Nw w w' := by
  go_enter Try.func16, Try.ntmps16
  go_wp2
  go_loopw [3, 8] (fun s i wr => ∃ k : Nat, k ≤ zs.length ∧ i = .int .i64 k ∧ s = .int .i64 (grpT (zs.take k)) ∧ Nw w wr) (fun _ i _ => zs.length - (intOf i).toNat)
  case atStart => exact ⟨0, Nat.zero_le _, rfl, rfl, Nw.refl _⟩
  case round =>
    obtain ⟨k, hk, rfl, rfl, hG⟩ := hrel
    have hg1 := grp_md (zs.take k) (fun z hz => hm z (List.mem_of_mem_take hz))
    by_cases h : k < zs.length
    · have hcell := (hc.grown hG).2 k h
      have hz := hm zs[k] (List.getElem_mem h)
      have HS : Hid (grpT (zs.take (k + 1)) = supT (grpT (zs.take k)) zs[k]) := by rw [take_snoc zs k h]; exact grp_snoc _ _
      obtain ⟨a1, a2⟩ := hg1
      obtain ⟨a3, a4⟩ := hz
      generalize grpT (zs.take k) = s at *
      generalize zs[k] = z at *
      go_wp2_with (go_at_call 14; refine (sup_in _ _ _ a1 a2 a3 a4).mono ?_; rintro e w' ⟨rfl, hg⟩)
      go_roundw
      case rel => exact ⟨k + 1, by omega, by go_num, by rw [HS.out], Nw.trans hG hg⟩
      case measure => simp [intOf]; omega
    · go_wp2
      go_ret
      exact ⟨ret_int (by rw [List.take_of_length_le (by omega)]), hG⟩

theorem group_nil (a : Option Addr) (c : Nat) (w : World) :
    Calls Try.prog 16 #[.slice a 0 c] w fun e w' => e = .returned (.int .i64 0) ∧ Nw w w' := by
  go_enter Try.func16, Try.ntmps16
  go_wp2
  refine wp_loop_rounds 1 ?_
  rw [rounds_succ]
  go_wp2
  go_ret
  exact ⟨rfl, Nw.refl _⟩

set_option maxHeartbeats 400000 in
theorem same_mode (b o c b' o' c' : Nat) (zs : List Int) (w : World) (hc : Cells w b o zs) (hc' : Cells w b' o' zs) (hl : zs.length ≤ 9223372036854775807) :
    Calls Try.prog 10 #[.slice (some ⟨b, o, none⟩) zs.length c, .slice (some ⟨b', o', none⟩) zs.length c'] w fun e w' => e = .returned (.bool true) ∧ Nw w w' := by
  go_enter Try.func10, Try.ntmps10
  go_wp2
  go_loopw [5] (fun i wr => ∃ k : Nat, k ≤ zs.length ∧ i = .int .i64 k ∧ Nw w wr) (fun i _ => zs.length - (intOf i).toNat)
  case atStart => exact ⟨0, Nat.zero_le _, rfl, Nw.refl _⟩
  case round =>
    obtain ⟨k, hk, rfl, hG⟩ := hrel
    by_cases h : k < zs.length
    · have hcell := (hc.grown hG).2 k h
      have hcell' := (hc'.grown hG).2 k h
      generalize zs[k] = z at *
      go_wp2_with fail
      go_quiet (fail)
      go_wp2
      go_roundw
      case rel => exact ⟨k + 1, by omega, by go_num, hG.drewN _⟩
      case measure => simp [intOf]; omega
    · go_wp2
      go_ret
      exact ⟨rfl, hG⟩
end Go.Proofs.Ytcmdcbpbfjpnpaa
