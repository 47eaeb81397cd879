
/- The entries of caps, operations and picks. -/
import Derived.Test.YtmegaipedagcjaaScA
import Derived.Laws.IdiomStrings
import Derived.LoopTactic
namespace Go.Proofs.Ytmegaipedagcjaa
open Go.RowKit

abbrev stV (l : List UInt8) : Value := .string ⟨l.toArray⟩
def Fz8 (w : World) (b : Nat) : Prop := ∀ j, w.frozen? ⟨b, j, none⟩ = false
/-- The array of an entry, k fields having come. -/
def ArrK (w : World) (n : Nat) (kd : UInt8) (F : List Int) (k : Nat) : Prop := ∀ j, j < 8 → w.cell? ⟨n, j, none⟩ = some (.int .u8 (((kd :: (F.take k).map bt).getD j 0).toNat : Int))
theorem getD_over {α : Type} (l : List α) (j : Nat) (d : α) (h : l.length ≤ j) : l.getD j d = d := by simp [List.getD, List.getElem?_eq_none h]
theorem getD_app_r {α : Type} (a b : List α) (j : Nat) (d : α) (h : a.length ≤ j) : (a ++ b).getD j d = b.getD (j - a.length) d := by simp [List.getD_eq_getElem?_getD, List.getElem?_append_right h]
theorem getD_app_l {α : Type} (a b : List α) (j : Nat) (d : α) (h : j < a.length) : (a ++ b).getD j d = a.getD j d := by simp [List.getD_eq_getElem?_getD, List.getElem?_append_left h]
theorem arr_step (w : World) (n : Nat) (kd : UInt8) (F : List Int) (k : Nat) (hk : k < F.length) (hl : F.length ≤ 7) (h : ArrK w n kd F k) : ArrK (w.setCell ⟨n, k + 1, none⟩ (.int .u8 (F.getD k 0 % 256))) n kd F (k + 1) := by
  intro j hj
  have e : (F.take (k + 1)).map bt = (F.take k).map bt ++ [bt (F.getD k 0)] := by
    rw [List.take_succ_eq_append_getElem hk, List.map_append]; simp [List.getD, hk]
  have hlen : ((F.take k).map bt).length = k := by simp; omega
  have c0 := h (k + 1) (by omega)
  by_cases q : j = k + 1
  · subst q
    rw [e, ← List.cons_append, getD_app_r _ _ _ _ (by simp; omega)]
    have : k + 1 - (kd :: (F.take k).map bt).length = 0 := by simp; omega
    rw [this]
    have hs := World.cell?_setCell_same w ⟨n, k + 1, none⟩ (.int .u8 (F.getD k 0 % 256)) c0
    rw [hs]
    simp [bt_nat]
  · have h1 := h j hj
    rw [e, ← List.cons_append]
    have hne : (w.setCell ⟨n, k + 1, none⟩ (.int .u8 (F.getD k 0 % 256))).cell? ⟨n, j, none⟩ = w.cell? ⟨n, j, none⟩ := World.cell?_setCell_other w ⟨n, k + 1, none⟩ ⟨n, j, none⟩ _ (fun e => q (congrArg Addr.off e).symm)
    rw [hne, h1]
    congr 2
    by_cases q2 : j < k + 1
    · rw [getD_app_l _ _ _ _ (by simp; omega)]
    · rw [getD_over _ _ _ (by simp; omega), getD_over _ _ _ (by simp; omega)]
theorem arr_zero (w : World) (kd : UInt8) (F : List Int) : ArrK (w.alloc (.cells #[.int .u8 kd.toNat, .int .u8 0, .int .u8 0, .int .u8 0, .int .u8 0, .int .u8 0, .int .u8 0, .int .u8 0] 106)) w.heap.size kd F 0 := by
  intro j hj
  have : j = 0 ∨ j = 1 ∨ j = 2 ∨ j = 3 ∨ j = 4 ∨ j = 5 ∨ j = 6 ∨ j = 7 := by omega
  rcases this with rfl | rfl | rfl | rfl | rfl | rfl | rfl | rfl <;> simp [go_sem]
/-- The bytes of an entry. -/
def entL (kd : UInt8) (F : List Int) : List UInt8 := kd :: F.map bt ++ List.replicate (7 - F.length) 0
theorem entL_len (kd : UInt8) (F : List Int) (hl : F.length ≤ 7) : (entL kd F).length = 8 := by simp [entL]; omega
theorem entL_at (kd : UInt8) (F : List Int) (hl : F.length ≤ 7) (j : Nat) (hj : j < (entL kd F).length) : (entL kd F)[j] = (kd :: F.map bt).getD j 0 := by
  have e : (entL kd F)[j] = (entL kd F).getD j 0 := by simp [List.getD, hj]
  rw [e, entL]
  by_cases q : j < (kd :: F.map bt).length
  · rw [getD_app_l _ _ _ _ q]
  · have e1 : (kd :: F.map bt).getD j 0 = 0 := getD_over _ _ _ (by omega)
    rw [e1, getD_app_r _ _ _ _ (by omega)]
    rw [entL_len kd F hl] at hj
    have : j - (kd :: F.map bt).length < 7 - F.length := by simp at q ⊢; omega
    rw [List.getD_eq_getElem?_getD, List.getElem?_replicate, if_pos this]; rfl
set_option maxHeartbeats 1000000 in
theorem entry_any (b o c : Nat) (F : List Int) (kd : UInt8) (w : World) (hl : F.length ≤ 7) (hb : b < w.heap.size) (h : ∀ k, k < F.length → w.cell? ⟨b, o + k, none⟩ = some (.int .i64 (F.getD k 0))) :
    Calls Try.prog 50 #[.int .u8 kd.toNat, .slice (some ⟨b, o, none⟩) F.length c] w fun e w' => e = .returned (stV (entL kd F)) ∧ Nw w w' := by
  have H := Lib.hid h
  clear h
  go_enter Try.func50, Try.ntmps50
  go_wp2
  go_loopw [12] (fun i wr => ∃ k : Nat, k ≤ F.length ∧ i = .int .i64 k ∧ ArrK wr w.heap.size kd F k ∧ Fz8 wr w.heap.size ∧ w.heap.size < wr.heap.size ∧ Nw w wr) (fun i _ => F.length - (intOf i).toNat)
  case atStart => exact ⟨0, Nat.zero_le _, rfl, arr_zero w kd F, fun j => by simp [go_sem], by simp, (Nw.refl w).alloc _⟩
  case round =>
    obtain ⟨k, hk, rfl, hA, hF, hS, hG⟩ := hrel
    by_cases hlt : k < F.length
    · have c0 := (hG.cell hb).trans (H.out k hlt)
      have c1 := hA (k + 1) (by omega)
      have c2 := hF (k + 1)
      have HN := Lib.hid (arr_step wr w.heap.size kd F k hlt hl hA)
      have HF := Lib.hid hF
      have hw1 : IntKind.i64.wrap ((k : Int) + 1) = (k : Int) + 1 := by rw [IntKind.wrap_i64]; omega
      have hw2 : IntKind.u8.wrap (F.getD k 0) = F.getD k 0 % 256 := IntKind.wrap_u8 _
      clear hA hF
      generalize F.getD k 0 = x at *
      go_wp2
      go_roundw
      case rel => exact ⟨k + 1, by omega, by go_num, HN.out, fun j => by simp [go_sem]; exact HF.out j, by simpa using hS, hG.set' (Nat.le_refl _) _⟩
      case measure => simp [intOf]; omega
    · have hkl : k = F.length := by omega
      subst hkl
      have hcv := run_convert_bytes_back (P := Try.prog) wr 55 9 5 ⟨w.heap.size, 0, none⟩ 8 (entL kd F) Try.underlying55 Try.underlying5 Try.underlying9 (fun j hj => by
        rw [entL_at kd F hl j hj, Addr.add_lit, Nat.zero_add, hA j (by rw [entL_len kd F hl] at hj; exact hj), List.take_length])
      rw [entL_len kd F hl] at hcv
      clear hA hF
      go_wp2
      go_ret
      exact ⟨rfl, hG⟩
end Go.Proofs.Ytmegaipedagcjaa
