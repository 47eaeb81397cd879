
/- ScriptNames: what its calls answer. -/
import Derived.Test.YtmegaipedagcjaaScNmA
import Derived.Test.YtmegaipedagcjaaScBkA
import Derived.Test.YtmegaipedagcjaaScW
namespace Go.Proofs.Ytmegaipedagcjaa
open Go.RowKit

/-- The bytes that the law names. -/
def wantL : List UInt8 := [1, 2, 3, 4, 0, 2, 0, 0, 2, 0, 1, 0, 0, 0, 0, 0, 2, 0, 3, 2, 3, 0, 9, 5, 2, 1, 9, 4, 0, 4, 0, 0, 3, 1, 1, 0, 0, 0, 0, 0, 3, 2, 200, 0, 0, 0, 0, 0]
def zzL : List UInt8 := [122, 122, 1, 2, 3, 4, 0, 2, 0, 0, 2, 0, 1, 0, 0, 0, 0, 0, 2, 0, 3, 2, 3, 0, 9, 5, 2, 1, 9, 4, 0, 4, 0, 0, 3, 1, 1, 0, 0, 0, 0, 0, 3, 2, 200, 0, 0, 0, 0, 0]
def moreL : List UInt8 := [1, 2, 3, 4, 0, 2, 0, 0, 2, 0, 1, 0, 0, 0, 0, 0, 2, 0, 3, 2, 3, 0, 9, 5, 2, 1, 9, 4, 0, 4, 0, 0, 3, 1, 1, 0, 0, 0, 0, 0, 3, 2, 200, 0, 0, 0, 0, 0, 49, 50, 51]
def oddL : List Od := [(0, 0, 0, 0, 0, 0), (12, -1, -1, 0, 0, 0), (1, 0, 0, 0, 0, 0), (2, 1, -1, 0, 0, 0), (6, 1, 1, 0, 0, 0), (9, 1, -1, 0, 0, 0), (2, 1, 1, 3, 0, 0), (2, 1, 1, 0, 1, 0), (10, 1, -1, 0, 0, 1), (3, 1, 1, 0, 256, 0), (7, -1, -1, 0, 0, 1)]
theorem smS_ok : okS smS = true := by decide
theorem smS_bytes : bytesOf smS = wantL := by decide
theorem want_rd : rd wantL = smS := by rw [← smS_bytes]; exact rd_bytes smS smS_ok
theorem zz_rd : rd zzL = ps0 := by rfl
theorem more_len : (chunks moreL).length = 6 := by decide
theorem odd_no : ∀ o ∈ oddL, okO o = false := by decide
theorem sm_check {z : World} {b5 b8 b9 b12 : Nat} (h : SmAt z b5 b8 b9 b12) : Calls Try.prog 19 #[.agg #[.slice (some ⟨b9, 0, none⟩) 2 2, .slice (some ⟨b12, 0, none⟩) 2 2, .int .i64 2, .int .i64 3, .int .i64 4, .int .i64 0]] z fun e w' => e = .returned (.int .i64 0) ∧ Nw z w' :=
  check_any _ _ smS z (fits_ok smS_ok) h.at'
theorem no_check (z : World) : Calls Try.prog 19 #[.agg #[.slice none 0 0, .slice none 0 0, .int .i64 0, .int .i64 0, .int .i64 0, .int .i64 0]] z fun e w' => e = .returned (.int .i64 2) ∧ Nw z w' :=
  check_any (.slice none 0 0) (.slice none 0 0) ⟨[], [], (0, 0, 0, 0)⟩ z ⟨by simp, by simp, by simp⟩ ⟨⟨_, _, rfl, .inl rfl⟩, ⟨_, _, rfl, .inl rfl⟩⟩
theorem sm_bytes {z : World} {b5 b8 b9 b12 : Nat} (h : SmAt z b5 b8 b9 b12) : Calls Try.prog 10 #[.agg #[.slice (some ⟨b9, 0, none⟩) 2 2, .slice (some ⟨b12, 0, none⟩) 2 2, .int .i64 2, .int .i64 3, .int .i64 4, .int .i64 0]] z fun e w' => e = .returned (.tuple #[stV [1, 2, 3, 4, 0, 2, 0, 0, 2, 0, 1, 0, 0, 0, 0, 0, 2, 0, 3, 2, 3, 0, 9, 5, 2, 1, 9, 4, 0, 4, 0, 0, 3, 1, 1, 0, 0, 0, 0, 0, 3, 2, 200, 0, 0, 0, 0, 0], .int .i64 0]) ∧ Nw z w' := by
  have := bytes_ok _ _ smS z smS_ok h.at'
  rw [smS_bytes] at this
  exact this
theorem sm_same {z : World} {b5 b8 b9 b12 : Nat} {vt vp : Value} (h : SmAt z b5 b8 b9 b12) (h' : ScAt z vt vp smS) : Calls Try.prog 18 #[scV vt vp smS.cp, .agg #[.slice (some ⟨b9, 0, none⟩) 2 2, .slice (some ⟨b12, 0, none⟩) 2 2, .int .i64 2, .int .i64 3, .int .i64 4, .int .i64 0]] z fun e w' => e = .returned (.bool true) ∧ Nw z w' :=
  progSame_any vt vp _ _ smS z (fits_ok smS_ok) h' h.at'
theorem want_read (z : World) : Calls Try.prog 16 #[stV [1, 2, 3, 4, 0, 2, 0, 0, 2, 0, 1, 0, 0, 0, 0, 0, 2, 0, 3, 2, 3, 0, 9, 5, 2, 1, 9, 4, 0, 4, 0, 0, 3, 1, 1, 0, 0, 0, 0, 0, 3, 2, 200, 0, 0, 0, 0, 0]] z (RdS z smS) := read_as wantL smS want_rd (by decide) z
theorem zz_read (z : World) : Calls Try.prog 16 #[stV zzL] z fun e w' => ∃ ap at' ct cp, e = .returned (.agg #[.slice at' 1 ct, .slice ap 0 cp, .int .i64 4, .int .i64 32, .int .i64 64, .int .i64 2]) ∧ Nw z w' := by
  refine (read_as zzL ps0 zz_rd (by decide) z).mono ?_
  rintro e w' ⟨vt, vp, rfl, ⟨⟨at', ct, rfl, _⟩, ap, cp, rfl, _⟩, g⟩
  exact ⟨ap, at', ct, cp, rfl, g⟩
theorem one_op (z : World) : Calls Try.prog 14 #[.agg #[.int .i64 9, .int .i64 3, .int .i64 (-1), .int .i64 4, .int .i64 0, .int .i64 0]] z fun e w' => e = .returned (.int .i64 0) ∧ Nw z w' :=
  op_any (9, 3, -1, 4, 0, 0) z
theorem odd_op (o : Od) (h : o ∈ oddL) (z : World) : Calls Try.prog 14 #[odV o] z fun e w' => e = .returned (.int .i64 2) ∧ Nw z w' := by
  have := op_any o z
  rw [odd_no o h] at this
  exact this
theorem one_entry (z : World) : Calls Try.prog 15 #[stV [2, 0, 3, 2, 3, 0, 9, 5]] z fun e w' => e = .returned (.tuple #[.int .i64 0, .agg #[.int .i64 3, .int .i64 1, .int .i64 2, .int .i64 0, .int .i64 9, .int .i64 5], .bool true]) ∧ Nw z w' := by
  have e1 : ent [2, 0, 3, 2, 3, 0, 9, 5] = some (0, (3, 1, 2, 0, 9, 5)) := by rfl
  have := entry_e 2 0 3 2 3 0 9 5 z
  rw [e1] at this
  exact this
theorem no_entry (z : World) : Calls Try.prog 15 #[stV [1, 2, 3, 4, 0, 2, 0, 0]] z fun e w' => e = .returned (.tuple #[.int .i64 0, .agg #[.int .i64 0, .int .i64 0, .int .i64 0, .int .i64 0, .int .i64 0, .int .i64 0], .bool false]) ∧ Nw z w' := by
  have e1 : ent [1, 2, 3, 4, 0, 2, 0, 0] = none := by decide
  have := entry_e 1 2 3 4 0 2 0 0 z
  rw [e1] at this
  exact this
theorem cut_a : (⟨#[1, 2, 3, 4, 0, 2, 0, 0, 2, 0, 1, 0, 0, 0, 0, 0, 2, 0, 3, 2, 3, 0, 9, 5, 2, 1, 9, 4, 0, 4, 0, 0, 3, 1, 1, 0, 0, 0, 0, 0, 3, 2, 200, 0, 0, 0, 0, 0]⟩ : ByteArray).extract 16 24 = ⟨#[2, 0, 3, 2, 3, 0, 9, 5]⟩ := ext_rule wantL 16 24
theorem cut_b : (⟨#[1, 2, 3, 4, 0, 2, 0, 0, 2, 0, 1, 0, 0, 0, 0, 0, 2, 0, 3, 2, 3, 0, 9, 5, 2, 1, 9, 4, 0, 4, 0, 0, 3, 1, 1, 0, 0, 0, 0, 0, 3, 2, 200, 0, 0, 0, 0, 0]⟩ : ByteArray).extract 0 8 = ⟨#[1, 2, 3, 4, 0, 2, 0, 0]⟩ := ext_rule wantL 0 8
theorem cat_a : (⟨#[122, 122]⟩ : ByteArray) ++ ⟨#[1, 2, 3, 4, 0, 2, 0, 0, 2, 0, 1, 0, 0, 0, 0, 0, 2, 0, 3, 2, 3, 0, 9, 5, 2, 1, 9, 4, 0, 4, 0, 0, 3, 1, 1, 0, 0, 0, 0, 0, 3, 2, 200, 0, 0, 0, 0, 0]⟩ = ⟨zzL.toArray⟩ := app_rule [122, 122] wantL
theorem cat_b : (⟨#[1, 2, 3, 4, 0, 2, 0, 0, 2, 0, 1, 0, 0, 0, 0, 0, 2, 0, 3, 2, 3, 0, 9, 5, 2, 1, 9, 4, 0, 4, 0, 0, 3, 1, 1, 0, 0, 0, 0, 0, 3, 2, 200, 0, 0, 0, 0, 0]⟩ : ByteArray) ++ ⟨#[49, 50, 51]⟩ = ⟨moreL.toArray⟩ := app_rule wantL [49, 50, 51]
end Go.Proofs.Ytmegaipedagcjaa
