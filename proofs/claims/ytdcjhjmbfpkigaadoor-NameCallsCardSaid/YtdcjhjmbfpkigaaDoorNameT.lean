/- The walk of NameBack: what its ways share. -/
import Derived.Test.YtdcjhjmbfpkigaaDoorNameS
import Derived.Test.YtdcjhjmbfpkigaaDoorRegion
import Derived.Stop.LaidErr
import Derived.LaidHandle
import Derived.Shelf.Vars
namespace Go.Proofs.YtdcjhjmbfpkigaaDoor
open Go.ChangeShapes Go.WideShapes Go.ChangeAt Go.RowKit

/-- Boxes of names at given blocks. -/
def BoxL (w : World) (l : List (Nat × Int × Int)) (w' : World) : Prop :=
  (∀ x ∈ l, w'.cell? ⟨x.1, 0, none⟩ = some (.int .i64 x.2.1) ∧ w'.cell? ⟨x.1, 1, none⟩ = some (.int .i64 x.2.2)) ∧ Nw w w'
theorem BoxL.step {w : World} {l : List (Nat × Int × Int)} (x y : World) (h : BoxL w l x) (g : Nw x y) : BoxL w l y :=
  ⟨fun z hz => ⟨g.keep (h.1 z hz).1, g.keep (h.1 z hz).2⟩, h.2.trans g⟩
theorem BoxL.c0 {w : World} {l : List (Nat × Int × Int)} (b : Nat) (i j : Int) {x : World} (h : BoxL w l x) (hm : (b, i, j) ∈ l) : x.cell? ⟨b, 0, none⟩ = some (.int .i64 i) := (h.1 _ hm).1
theorem BoxL.c1 {w : World} {l : List (Nat × Int × Int)} (b : Nat) (i j : Int) {x : World} (h : BoxL w l x) (hm : (b, i, j) ∈ l) : x.cell? ⟨b, 1, none⟩ = some (.int .i64 j) := (h.1 _ hm).2
theorem BoxL.one {w x : World} {l : List (Nat × Int × Int)} {b : Nat} {i j : Int} (h : BoxL w l x) (h0 : x.cell? ⟨b, 0, none⟩ = some (.int .i64 i)) (h1 : x.cell? ⟨b, 1, none⟩ = some (.int .i64 j)) : BoxL w ((b, i, j) :: l) x :=
  ⟨fun z hz => by
    rcases List.mem_cons.1 hz with rfl | hz
    · exact ⟨h0, h1⟩
    · exact h.1 z hz, h.2⟩
theorem BoxL.two (w : World) (a0 b0 a1 b1 : Int) (t : TypeId) : BoxL w [(w.heap.size, a0, b0), (w.heap.size + 1, a1, b1)] ((w.alloc (.cells #[.int .i64 a0, .int .i64 b0] t)).alloc (.cells #[.int .i64 a1, .int .i64 b1] t)) := by
  have h := boxes_start' w a0 b0 a1 b1 t
  refine ⟨fun z hz => ?_, h.2.2⟩
  simp only [List.mem_cons, List.not_mem_nil, or_false] at hz
  rcases hz with rfl | rfl
  · exact ⟨h.1.1, h.1.2.1⟩
  · exact ⟨h.1.2.2.1, h.1.2.2.2⟩

theorem txt_size (t r : Int) : (txt t r).size ≤ 60 := by
  show (txtL t r).toArray.size ≤ 60
  rw [List.size_toArray]
  rcases kinds t r with ⟨rfl, rfl⟩ | ⟨h0, h1, rfl⟩ | ⟨h0, h1, h2, h3⟩ | h
  · decide +kernel
  · rw [txtL_tab t h0 h1]; have := dig_len t h0 h1; simp; omega
  · rw [txtL_rec t r h0 h1 h2 h3]; have := dig_len t h0 h1; have := dig_len r h2 h3; simp; omega
  · rw [txt_mark t r h]; decide
theorem txt_data (t r : Int) : (txt t r).data.toList = txtL t r := by show (txtL t r).toArray.toList = _; simp
/-- Different valid names have different texts. -/
theorem txt_inj {t r t' r' : Int} (h : lvl t r ≠ -1) (h' : lvl t' r' ≠ -1) (e : txtL t r = txtL t' r') : t = t' ∧ r = r' := by
  have key : ∀ {t r : Int}, lvl t r ≠ -1 → (t = -1 ∧ r = -1 ∧ txtL t r = [100, 98]) ∨ (prT (txtL t r) = t ∧ prR (txtL t r) = r ∧ ∃ l, txtL t r = 116 :: l) := fun {t r} h => by
    rcases kinds t r with ⟨rfl, rfl⟩ | ⟨h0, h1, rfl⟩ | ⟨h0, h1, h2, h3⟩ | h0
    · exact .inl ⟨rfl, rfl, by decide +kernel⟩
    · rw [txtL_tab t h0 h1]; exact .inr ⟨(pr_tab t h0 h1).1, (pr_tab t h0 h1).2.1, _, rfl⟩
    · rw [txtL_rec t r h0 h1 h2 h3]; exact .inr ⟨(pr_rec t r h0 h1 h2 h3).1, (pr_rec t r h0 h1 h2 h3).2.1, _, rfl⟩
    · exact absurd h0 h
  rcases key h with ⟨a1, a2, a3⟩ | ⟨a1, a2, l, a3⟩ <;> rcases key h' with ⟨b1, b2, b3⟩ | ⟨b1, b2, k, b3⟩
  · exact ⟨a1.trans b1.symm, a2.trans b2.symm⟩
  · rw [a3, b3] at e; cases e
  · rw [a3, b3] at e; cases e
  · exact ⟨by rw [← a1, e, b1], by rw [← a2, e, b2]⟩
theorem read_text (t r : Int) (w : World) (hl : Libs w) (hv : lvl t r ≠ -1) :
    Calls Tryd.prog 12 #[.string (txt t r)] w fun e w' => e = .returned (.tuple #[.agg #[.int .i64 t, .int .i64 r], .int .i64 0]) ∧ Nw w w' :=
  read_hit t r (txt t r) w hl (txt_size t r) hv (txt_data t r)
theorem read_mark (w : World) (hl : Libs w) :
    Calls Tryd.prog 12 #[.string ⟨#[63]⟩] w fun e w' => e = .returned (.tuple #[.agg #[.int .i64 0, .int .i64 0], .int .i64 3]) ∧ Nw w w' := by
  refine read_miss _ w hl (by decide) (fun t r hv e => ?_)
  have e' : [63] = txtL t r := e
  rcases kinds t r with ⟨rfl, rfl⟩ | ⟨h0, h1, rfl⟩ | ⟨h0, h1, h2, h3⟩ | h0
  · rw [show txtL (-1) (-1) = [100, 98] by decide +kernel] at e'; cases e'
  · rw [txtL_tab t h0 h1] at e'; cases e'
  · rw [txtL_rec t r h0 h1 h2 h3] at e'; cases e'
  · exact hv h0

/-! ### What the row lists, and the world's shape, give -/
theorem gES : Tryd.prog.globalNamed "strconv.ErrSyntax" = some 2 := by kernel_rfl
theorem gER : Tryd.prog.globalNamed "strconv.ErrRange" = some 3 := by kernel_rfl
theorem gESType : (Tryd.prog.globals[2]?).map (·.type) = some 66 := by kernel_rfl
theorem gERType : (Tryd.prog.globals[3]?).map (·.type) = some 66 := by kernel_rfl
theorem star : "*" ++ "errors.errorString" = "*errors.errorString" := by decide
theorem rowES (u : TypeId) (h : Tryd.prog.typeName? 3 u = some "*errors.errorString") : u = 106 :=
  typeName_ptr_named (nm := "errors.errorString") (by rw [star]; kernel_rfl) (by kernel_rfl) (by decide) u (by rw [star]; exact h)
theorem cellsES : Tryd.prog.cellsOf 108 = 1 := by kernel_rfl
theorem cellsS : Tryd.prog.cellsOf 9 = 1 := by kernel_rfl
theorem libs_of {W : World} (hsh : W.ShapedOpen Tryd.prog) (hL : laidMetH Tryd.prog Rows.nameBackRow.laid W) : Libs W := by
  have hL' : laidMet Tryd.prog Rows.nameBackRow.laid W := by
    have e : (Rows.nameBackRow.laid.filter fun x => x.2.handleName?.isSome) = [] := by kernel_rfl
    unfold laidMetH at hL
    rw [e] at hL
    exact hL
  have h3 := hL'.tail.tail.tail
  have h4 := h3.tail
  refine ⟨Go.Proofs.cell_of_shapedOpen_int (zero := #[.int .i64 0]) (t := 3) hsh (of_decide_eq_true (by kernel_rfl)) (by kernel_rfl) rfl (by kernel_rfl) (by kernel_rfl) Tryd.underlying3, ?_, ?_⟩
  · obtain ⟨a, _, hv, -, -, -⟩ := laid_sentinel h4 gES gESType Tryd.underlying66 rowES Tryd.underlying106 Tryd.underlying108 rfl rfl Tryd.underlying9 cellsES cellsS
    exact ⟨_, _, by have := World.var?_cell gES hv 0; simpa using this⟩
  · obtain ⟨a, _, hv, -, -, -⟩ := laid_sentinel h3 gER gERType Tryd.underlying66 rowES Tryd.underlying106 Tryd.underlying108 rfl rfl Tryd.underlying9 cellsES cellsS
    exact ⟨_, _, by have := World.var?_cell gER hv 0; simpa using this⟩
end Go.Proofs.YtdcjhjmbfpkigaaDoor
