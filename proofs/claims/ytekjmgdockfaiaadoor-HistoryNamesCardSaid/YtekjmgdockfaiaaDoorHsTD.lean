
/- Texts of events: what is no event at all. -/
import Derived.Test.YtekjmgdockfaiaaDoorHsTC
import Derived.Sort.Grow
namespace Go.Proofs.YtekjmgdockfaiaaDoor
open Go.ChangeShapes Go.WideShapes Go.ChangeAt Go.RowKit
set_option linter.unusedVariables false      -- a contract need not use every name

theorem tab_nw {a b : World} (g : Nw a b) (h : Lib.TabIs Tryd.prog a "internal/strconv.uint64pow10" .u64 Lib.pow10Tab) : Lib.TabIs Tryd.prog b "internal/strconv.uint64pow10" .u64 Lib.pow10Tab :=
by
  have hgn : Tryd.prog.globalNamed "internal/strconv.uint64pow10" = some 0 := by kernel_rfl
  unfold Lib.TabIs World.var? at h ⊢
  rw [hgn] at h ⊢
  simp only [Option.bind_some] at h ⊢
  have hlt : 0 < a.heap.size := by
    rcases Nat.lt_or_ge 0 a.heap.size with h' | h'
    · exact h'
    · rw [Array.getElem?_eq_none h'] at h; cases h
  rw [g.block 0 hlt]
  exact h
theorem nw_grow (w : World) (k : Nat) (os : Array Obj) : Nw w (Go.Sort.grow (w.drewN k) os) := by
  have h := (Nw.refl w).drewN k
  exact ⟨h.os, h.tape, h.output, Nat.le_trans h.size (by simp [Go.Sort.grow]), fun j hj => (Go.Sort.heap_grow_old _ _ (Nat.lt_of_lt_of_le hj h.size)).trans (h.block j hj)⟩
theorem it_m3 (w : World) (ht : Lib.TabIs Tryd.prog w "internal/strconv.uint64pow10" .u64 Lib.pow10Tab) : Calls Tryd.prog 23 #[.int .i64 (-3)] w fun e w' => e = .returned (.string ⟨#[45, 51]⟩) ∧ Nw w w' := by
  have hd : Lib.itoa (-3) = [45, 51] := by decide +kernel
  exact (Tryd.strconv_Itoa (-3) (by decide) (by decide) w ht).mono fun _ _ ⟨he, k, os, hw⟩ => ⟨by rw [he, hd], by rw [hw]; exact nw_grow _ _ _⟩
theorem tbox_step {w a b : World} {c t : Int} {i : Bool} {k x tb rc m co : Int} (g : Nw a b) (h : (a.cell? ⟨w.heap.size, 0, none⟩ = some (.int .i64 c) ∧ a.cell? ⟨w.heap.size, 1, none⟩ = some (.int .i64 t) ∧ a.cell? ⟨w.heap.size, 2, none⟩ = some (.bool i) ∧ a.cell? ⟨w.heap.size, 3, none⟩ = some (.int .i64 k) ∧ a.cell? ⟨w.heap.size, 4, none⟩ = some (.int .i64 x) ∧ a.cell? ⟨w.heap.size, 5, none⟩ = some (.int .i64 tb) ∧ a.cell? ⟨w.heap.size, 6, none⟩ = some (.int .i64 rc) ∧ a.cell? ⟨w.heap.size, 7, none⟩ = some (.int .i64 m) ∧ a.cell? ⟨w.heap.size, 8, none⟩ = some (.int .i64 co) ∧ (w.heap.size < a.heap.size ∧ Nw w a ∧ Lib.TabIs Tryd.prog a "internal/strconv.uint64pow10" .u64 Lib.pow10Tab))) : (b.cell? ⟨w.heap.size, 0, none⟩ = some (.int .i64 c) ∧ b.cell? ⟨w.heap.size, 1, none⟩ = some (.int .i64 t) ∧ b.cell? ⟨w.heap.size, 2, none⟩ = some (.bool i) ∧ b.cell? ⟨w.heap.size, 3, none⟩ = some (.int .i64 k) ∧ b.cell? ⟨w.heap.size, 4, none⟩ = some (.int .i64 x) ∧ b.cell? ⟨w.heap.size, 5, none⟩ = some (.int .i64 tb) ∧ b.cell? ⟨w.heap.size, 6, none⟩ = some (.int .i64 rc) ∧ b.cell? ⟨w.heap.size, 7, none⟩ = some (.int .i64 m) ∧ b.cell? ⟨w.heap.size, 8, none⟩ = some (.int .i64 co) ∧ (w.heap.size < b.heap.size ∧ Nw w b ∧ Lib.TabIs Tryd.prog b "internal/strconv.uint64pow10" .u64 Lib.pow10Tab)) :=
  have hl : w.heap.size < a.heap.size := h.2.2.2.2.2.2.2.2.2.1
  ⟨(g.cell hl).trans h.1, (g.cell hl).trans h.2.1, (g.cell hl).trans h.2.2.1, (g.cell hl).trans h.2.2.2.1, (g.cell hl).trans h.2.2.2.2.1, (g.cell hl).trans h.2.2.2.2.2.1, (g.cell hl).trans h.2.2.2.2.2.2.1, (g.cell hl).trans h.2.2.2.2.2.2.2.1, (g.cell hl).trans h.2.2.2.2.2.2.2.2.1, Nat.lt_of_lt_of_le hl g.sz, h.2.2.2.2.2.2.2.2.2.2.1.trans g, tab_nw g h.2.2.2.2.2.2.2.2.2.2.2⟩
theorem tab_of {w a : World} {c t : Int} {i : Bool} {k x tb rc m co : Int} (h : (a.cell? ⟨w.heap.size, 0, none⟩ = some (.int .i64 c) ∧ a.cell? ⟨w.heap.size, 1, none⟩ = some (.int .i64 t) ∧ a.cell? ⟨w.heap.size, 2, none⟩ = some (.bool i) ∧ a.cell? ⟨w.heap.size, 3, none⟩ = some (.int .i64 k) ∧ a.cell? ⟨w.heap.size, 4, none⟩ = some (.int .i64 x) ∧ a.cell? ⟨w.heap.size, 5, none⟩ = some (.int .i64 tb) ∧ a.cell? ⟨w.heap.size, 6, none⟩ = some (.int .i64 rc) ∧ a.cell? ⟨w.heap.size, 7, none⟩ = some (.int .i64 m) ∧ a.cell? ⟨w.heap.size, 8, none⟩ = some (.int .i64 co) ∧ (w.heap.size < a.heap.size ∧ Nw w a ∧ Lib.TabIs Tryd.prog a "internal/strconv.uint64pow10" .u64 Lib.pow10Tab))) : Lib.TabIs Tryd.prog a "internal/strconv.uint64pow10" .u64 Lib.pow10Tab := h.2.2.2.2.2.2.2.2.2.2.2
set_option maxHeartbeats 16000000 in
set_option maxRecDepth 100000 in
theorem text_none' (c : Int) (w : World) (hc : c = -3) (ht : Lib.TabIs Tryd.prog w "internal/strconv.uint64pow10" .u64 Lib.pow10Tab) : Calls Tryd.prog 15 #[evV ⟨c, 0, true, ⟨9, 0, -1, -1, 0, 0⟩⟩] w fun e w' => e = .returned (.string ⟨#[116, 48, 32, 99, 45, 51, 32, 63, 32, 120, 48, 32, 100, 98, 32, 110, 111, 110, 101]⟩) ∧ Nw w w' := by
  have hK : ∀ w, Lib.TabIs Tryd.prog w "internal/strconv.uint64pow10" .u64 Lib.pow10Tab → Calls Tryd.prog 23 #[.int .i64 c] w fun e w' => e = .returned (.string ⟨#[45, 51]⟩) ∧ Nw w w' := by
    intro w ht
    rw [hc]
    exact it_m3 w ht
  clear hc
  have HK := Lib.hid hK
  clear hK
  have hS0 := ebox_start w c 0 true 9 0 (-1) (-1) 0 0 31
  have hS := And.intro hS0.1 (And.intro hS0.2.1 (And.intro hS0.2.2.1 (And.intro hS0.2.2.2.1 (And.intro hS0.2.2.2.2.1 (And.intro hS0.2.2.2.2.2.1 (And.intro hS0.2.2.2.2.2.2.1 (And.intro hS0.2.2.2.2.2.2.2.1 (And.intro hS0.2.2.2.2.2.2.2.2.1 (And.intro hS0.2.2.2.2.2.2.2.2.2.1 (And.intro hS0.2.2.2.2.2.2.2.2.2.2 (tab_nw hS0.2.2.2.2.2.2.2.2.2.2 ht)))))))))))
  clear hS0
  go_enter Tryd.func15, Tryd.ntmps15
  go_wp2
  go_region_held3 (fun w' => (w'.cell? ⟨w.heap.size, 0, none⟩ = some (.int .i64 c) ∧ w'.cell? ⟨w.heap.size, 1, none⟩ = some (.int .i64 0) ∧ w'.cell? ⟨w.heap.size, 2, none⟩ = some (.bool true) ∧ w'.cell? ⟨w.heap.size, 3, none⟩ = some (.int .i64 9) ∧ w'.cell? ⟨w.heap.size, 4, none⟩ = some (.int .i64 0) ∧ w'.cell? ⟨w.heap.size, 5, none⟩ = some (.int .i64 (-1)) ∧ w'.cell? ⟨w.heap.size, 6, none⟩ = some (.int .i64 (-1)) ∧ w'.cell? ⟨w.heap.size, 7, none⟩ = some (.int .i64 0) ∧ w'.cell? ⟨w.heap.size, 8, none⟩ = some (.int .i64 0) ∧ (w.heap.size < w'.heap.size ∧ Nw w w' ∧ Lib.TabIs Tryd.prog w' "internal/strconv.uint64pow10" .u64 Lib.pow10Tab))) (first | assumption | exact tbox_step (Nw.refl _).drew1 (by assumption) | exact tbox_step (by assumption) (by assumption))
    (first | (go_at_call_of 23 (Value.int .i64 0); refine (it_0 _).mono ?_; rintro e w' ⟨rfl, rfl⟩) | (go_at_call_of 23 (Value.int .i64 c); refine (HK.out _ (by first | exact (tab_of (by assumption)) | exact tab_nw (Nw.refl _).drew1 (tab_of (by assumption)) | exact tab_nw (by assumption) (tab_of (by assumption)))).mono ?_; rintro e w' ⟨rfl, hg⟩))
  all_goals
    rename_i hS2
    clear hS
    go_wp2
    go_region_held3 (fun w' => (w'.cell? ⟨w.heap.size, 0, none⟩ = some (.int .i64 c) ∧ w'.cell? ⟨w.heap.size, 1, none⟩ = some (.int .i64 0) ∧ w'.cell? ⟨w.heap.size, 2, none⟩ = some (.bool true) ∧ w'.cell? ⟨w.heap.size, 3, none⟩ = some (.int .i64 9) ∧ w'.cell? ⟨w.heap.size, 4, none⟩ = some (.int .i64 0) ∧ w'.cell? ⟨w.heap.size, 5, none⟩ = some (.int .i64 (-1)) ∧ w'.cell? ⟨w.heap.size, 6, none⟩ = some (.int .i64 (-1)) ∧ w'.cell? ⟨w.heap.size, 7, none⟩ = some (.int .i64 0) ∧ w'.cell? ⟨w.heap.size, 8, none⟩ = some (.int .i64 0) ∧ (w.heap.size < w'.heap.size ∧ Nw w w' ∧ Lib.TabIs Tryd.prog w' "internal/strconv.uint64pow10" .u64 Lib.pow10Tab))) (first | assumption | exact tbox_step (Nw.refl _).drew1 (by assumption) | exact tbox_step (by assumption) (by assumption))
      (first | (go_at_call 23; refine (it_0 _).mono ?_; rintro e w' ⟨rfl, rfl⟩) | (go_at_call 25; refine (kindText_9 _).mono ?_; rintro e w' ⟨rfl, hg⟩) | (go_at_call 26; refine (text_db _).mono ?_; rintro e w' ⟨rfl, hg⟩) | (go_at_call 27; refine (mtext_none _).mono ?_; rintro e w' ⟨rfl, hg⟩))
  all_goals
    rename_i hS3
    have hN := hS3.2.2.2.2.2.2.2.2.2.2.1
    go_wp2
    go_ret
    exact ⟨rfl, hN⟩
theorem text_none (w : World) (ht : Lib.TabIs Tryd.prog w "internal/strconv.uint64pow10" .u64 Lib.pow10Tab) : Calls Tryd.prog 15 #[evV ⟨-3, 0, true, ⟨9, 0, -1, -1, 0, 0⟩⟩] w fun e w' => e = .returned (.string ⟨#[116, 48, 32, 99, 45, 51, 32, 63, 32, 120, 48, 32, 100, 98, 32, 110, 111, 110, 101]⟩) ∧ Nw w w' :=
  text_none' (-3) w rfl ht
end Go.Proofs.YtekjmgdockfaiaaDoor
