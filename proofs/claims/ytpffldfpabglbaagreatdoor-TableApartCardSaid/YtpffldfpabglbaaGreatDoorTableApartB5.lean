/- Texts merged: PoB, R1, R1B, QuA, BdH, TbB, TbA, TbF, TbC, TbD -/
import Derived.Test.YtpffldfpabglbaaGreatDoorTableApartB4
import Derived.LoopTactic
import Derived.RegionIn

/- A pool: Take, Give. -/
section
namespace Go.Proofs.YtpffldfpabglbaaGreatDoor
open Go.RowKit
set_option linter.unusedVariables false

/-- Take's and Give's answers. -/
def tkR (L : List Bool) : Int × Int := if fre L < L.length then (fre L, 0) else (0, 8)
theorem tkL_full {L : List Bool} (h : ¬ fre L < L.length) : tkL L = L := if_neg h
theorem hsL_at {L : List Bool} {n : Int} (h : hsL L n = true) : ∃ i : Nat, n = i ∧ ∃ hi : i < L.length, L[i] = true := by
  unfold hsL at h
  simp only [Bool.and_eq_true, decide_eq_true_eq] at h
  obtain ⟨a, b⟩ := h
  obtain ⟨i, rfl⟩ := Int.eq_ofNat_of_zero_le a
  exact ⟨i, rfl, getD_lt (by simpa using b)⟩
theorem take_full {p g : Nat} {v : Value} {l : List Int} {L : List Bool} {w : World} (h : Po w p g v l L) (q : ¬ fre L < L.length) : Calls Tryz.prog 128 #[.pointer (some ⟨p, 0, none⟩)] w fun e w' => e = .returned (.tuple #[.int .i64 0, .int .i64 8]) ∧ w = w' := by
  have HM := Lib.hid (pmade_yes p w h.self)
  have hl : l.length = 0 := by
    rw [h.hs.len, frI_none (by have := fre_le L; omega)]; rfl
  have hd := h.hv.hd
  have hvf := h.hv.form
  clear h q
  rcases hvf with ⟨rfl, _⟩ | ⟨g2, cap, rfl, _⟩
  · go_enter Tryz.func128, Tryz.ntmps128
    go_wp2_with (first | (go_at_call 123; refine HM.out.mono ?_; rintro e w' ⟨rfl, rfl⟩) | (go_at_call 124; refine (ilen_any _ _ _ _).mono ?_; rintro e w' ⟨rfl, rfl⟩))
    exact bodyPost_ret (v := .tuple #[.int .i64 0, .int .i64 8]) (by simp [results, Tryz.results128, go_sem]) rfl ⟨rfl, rfl⟩
  · rw [hl] at hd
    go_enter Tryz.func128, Tryz.ntmps128
    go_wp2_with (first | (go_at_call 123; refine HM.out.mono ?_; rintro e w' ⟨rfl, rfl⟩) | (go_at_call 124; refine (ilen_any _ _ _ _).mono ?_; rintro e w' ⟨rfl, rfl⟩))
    exact bodyPost_ret (v := .tuple #[.int .i64 0, .int .i64 8]) (by simp [results, Tryz.results128, go_sem]) rfl ⟨rfl, rfl⟩
theorem passert_int (y : Value) (w : World) : Sem.run Tryz.prog (Instr.typeAssert (.iface 3 y) 20 3 false) w = .ok y w := iassert_t y w
/-- What Pop leaves, and the store behind it. -/
theorem Po.popped {p g g2 cap : Nat} {l : List Int} {L : List Bool} {w w1 : World} (h : Po w p g (.slice (some ⟨g2, 0, none⟩) l.length cap) l L) (q : fre L < L.length) (hp : IPopH w p 2 g2 cap (frI (tkL L)) w1) :
    PolTo w p (PoF p g (.slice (some ⟨g2, 0, none⟩) l.length cap)) (tkL L) (w1.setCell ⟨g, fre L, none⟩ (.bool true)) ∧ w1.cell? ⟨p, 1, none⟩ = some (.slice (some ⟨g, 0, none⟩) L.length L.length) ∧ w1.cell? ⟨g, fre L, none⟩ = some (.bool false) ∧ w1.frozen? ⟨g, fre L, none⟩ = false ∧ g < w1.heap.size := by
  obtain ⟨l', hp, hs, ht, hsd⟩ := hp
  have hg2 : g ≠ g2 := fun e => h.gv (by simp [Value.ownBlock, e])
  have hgS : ¬ (g = p ∨ g = g2) := fun e => e.elim h.gp hg2
  have hsz := ht.size
  have hgl := h.gl
  have hfr := fre_free L q
  have c1 := (hsd 1 (by omega)).1.trans h.row
  have cg := fun i hi => And.intro ((ht.cell (o := i) hgl hgS).trans (h.cells i hi).1) ((ht.froz (o := i) hgl hgS).trans (h.cells i hi).2)
  have t2 := setCell_at w1 ⟨g, fre L, none⟩ (.bool true)
  refine ⟨⟨PoF p g (.slice (some ⟨g2, 0, none⟩) l'.length cap), ⟨g, _, l', ?_, rfl⟩, ?_, ?_⟩, c1, ?_, (cg _ q).2, by omega⟩
  · have hv := hp.v.tch t2 (fun e => h.gp e.symm) (fun b e => by simp [Value.ownBlock] at e; subst e; exact fun e => hg2 e.symm)
    refine ⟨?_, ?_, fun i hi => ?_, by simp; omega, hv, hs, h.gp, by simpa [Value.ownBlock] using (fun e => hg2 e.symm), by rw [tkL_len]; exact h.sz⟩
    · rw [t2.cell hp.lt (fun e => h.gp e.symm)]
      exact (hsd 0 (by omega)).1.trans h.self
    · rw [t2.cell hp.lt (fun e => h.gp e.symm), tkL_len]
      exact c1
    · rw [tkL_len] at hi
      refine ⟨?_, by rw [World.frozen?_setCell]; exact (cg i hi).2⟩
      unfold tkL
      rw [if_pos q]
      by_cases e : fre L = i
      · subst e
        rw [getD_at (by simpa using hi), List.getElem_set_self]
        exact World.cell?_setCell_same _ _ _ (cg _ hi).1
      · rw [getD_at (by simpa using hi), List.getElem_set_ne e, ← getD_at hi]
        exact (World.cell?_setCell_other _ _ _ _ (fun q => e (congrArg Addr.off q))).trans (cg i hi).1
  · intro k e
    rcases e with e | e | e
    · exact .inl (.inl e)
    · exact .inl (.inr (.inl e))
    · exact .inl (.inr (.inr e))
  · refine (ht.mono (fun k _ e => ?_)).trans (t2.mono (fun k _ e => .inr (.inl e)))
    rcases e with e | e
    · exact .inl e
    · exact .inr (.inr (by rw [e]; rfl))
  · rw [(cg _ q).1, getD_at q, hfr]
theorem take_some {p g : Nat} {v : Value} {l : List Int} {L : List Bool} {w : World} (h : Po w p g v l L) (q : fre L < L.length) : Calls Tryz.prog 128 #[.pointer (some ⟨p, 0, none⟩)] w fun e w' => e = .returned (.tuple #[.int .i64 (fre L), .int .i64 0]) ∧ PolTo w p (PoF p g v) (tkL L) w' := by
  have HM := Lib.hid (pmade_yes p w h.self)
  have hll := h.llen
  have hsz := h.sz
  have hq : liv L < L.length := by
    rcases Nat.lt_or_ge (liv L) L.length with a | a
    · exact a
    · have := liv_le L
      have := (liv_full (L := L)).1 (by omega)
      omega
  rcases h.hv.form with ⟨rfl, rfl⟩ | ⟨g2, cap, rfl, hp⟩
  · simp at hll; omega
  · have hs := h.hs
    rw [frI_take q] at hs
    have HP := Lib.hid (ihpop_any p 2 g2 cap l (frI (tkL L)) (fre L) w hp hs (by omega))
    have HQ := Lib.hid (fun w1 k => h.popped q (w1 := w1) k)
    have hd := h.hv.hd
    have ta := passert_int
    have hm : decide ((l.length : Int) = 0) = false := by simp; intro e; subst e; simp at hll; omega
    have hm2 : ((l.length : Int) == 0) = false := by simp; intro e; subst e; simp at hll; omega
    have hne : l.length ≠ 0 := by omega
    have hlt := h.lt
    have qi : (fre L : Int) < (L.length : Int) := by omega
    clear h hp hs
    generalize fre L = i at *
    generalize L.length = N at *
    generalize l.length = M at *
    go_enter Tryz.func128, Tryz.ntmps128
    go_wp2_with (first | (go_at_call 123; refine HM.out.mono ?_; rintro e w' ⟨rfl, rfl⟩) | (go_at_call 124; refine (ilen_any _ _ _ _).mono ?_; rintro e w' ⟨rfl, rfl⟩))
    refine HP.out.mono ?_
    rintro e w1 ⟨rfl, hw1⟩
    obtain ⟨a1, a2, a3, a4, a5⟩ := HQ.out w1 hw1
    have HA := Lib.hid a1
    clear a1 hw1
    go_wp2
    exact bodyPost_ret (v := .tuple #[.int .i64 i, .int .i64 0]) (by simp [results, Tryz.results128, go_sem]) rfl ⟨rfl, HA.out⟩
theorem take_any {p : Nat} {L : List Bool} {F : Nat → Prop} {w : World} (h : Pol w p L F) : Calls Tryz.prog 128 #[.pointer (some ⟨p, 0, none⟩)] w fun e w' => e = .returned (.tuple #[.int .i64 (tkR L).1, .int .i64 (tkR L).2]) ∧ PolTo w p F (tkL L) w' := by
  by_cases q : fre L < L.length
  · rw [show tkR L = (↑(fre L), 0) from if_pos q]
    obtain ⟨g, v, l, h, rfl⟩ := h
    exact take_some h q
  · rw [show tkR L = (0, 8) from if_neg q, tkL_full q]
    have h2 := h
    obtain ⟨g, v, l, h, rfl⟩ := h
    refine (take_full h q).mono ?_
    rintro e w' ⟨rfl, rfl⟩
    exact ⟨rfl, h2.to (Nw.refl _)⟩

/-! ### Give -/
/-- The store of Give, and what Push leaves. -/
theorem Po.stored {p g : Nat} {v : Value} {l : List Int} {L : List Bool} {w : World} (h : Po w p g v l L) (i : Nat) : IHv (w.setCell ⟨g, i, none⟩ (.bool false)) p 2 v l :=
  h.hv.tch (setCell_at w ⟨g, i, none⟩ (.bool false)) (fun e => h.gp e.symm) (fun b e => by intro q; exact h.gv (by rw [e, q]))
theorem give_bad {p g : Nat} {v : Value} {l : List Int} {L : List Bool} {w : World} (h : Po w p g v l L) (n : Int) (q : hsL L n = false) : Calls Tryz.prog 95 #[.pointer (some ⟨p, 0, none⟩), .int .i64 n] w fun e w' => e = .returned (.int .i64 5) ∧ w = w' := by
  have HM := Lib.hid (pmade_yes p w h.self)
  have hh := has_at h n
  rw [q] at hh
  have HH := Lib.hid hh
  clear h hh q
  go_enter Tryz.func95, Tryz.ntmps95
  go_wp2_with (first | (go_at_call 123; refine HM.out.mono ?_; rintro e w' ⟨rfl, rfl⟩) | (go_at_call 130; refine HH.out.mono ?_; rintro e w' ⟨rfl, rfl⟩))
  go_ret
  exact ⟨rfl, rfl⟩
end Go.Proofs.YtpffldfpabglbaaGreatDoor
end

/- The document's own answers on modes: Known, Compatible, Covers, Sup. -/
section
namespace Go.Proofs.YtpffldfpabglbaaGreatDoor
open Go.RowKit
set_option linter.unusedVariables false      -- a contract need not use every name

end Go.Proofs.YtpffldfpabglbaaGreatDoor
end

/- The document's own answers on modes: Compatible, Covers, Sup, Group at whatever modes. -/
section
namespace Go.Proofs.YtpffldfpabglbaaGreatDoor
open Go.RowKit
set_option linter.unusedVariables false      -- a contract need not use every name

end Go.Proofs.YtpffldfpabglbaaGreatDoor
end

/- Requests and heads in memory; of the document's own: Holds, Waits, right. -/
section
namespace Go.Proofs.YtpffldfpabglbaaGreatDoor
open Go.RowKit
set_option linter.unusedVariables false      -- a contract need not use every name

def rqrow (r : Rq) : List Value := [.int .i64 r.id, .int .i64 r.txn, .int .i64 r.md, .int .i64 r.wt, .int .i64 r.sn]
def rqV (r : Rq) : Value := .agg #[.int .i64 r.id, .int .i64 r.txn, .int .i64 r.md, .int .i64 r.wt, .int .i64 r.sn]
def hdV (t r : Int) (v : Value) (W : Int) : Value := .agg #[.int .i64 t, .int .i64 r, v, .int .i64 W]
theorem elemRq : Elem Tryz.prog 61 50 5 40 rqrow where
  und := Tryz.underlying61
  inf := by
    have h : (Tryz.prog.info? 50).map (fun i => (i.zero, i.size, i.bytes)) = some (some (.agg #[.int .i64 0, .int .i64 0, .int .i64 0, .int .i64 0, .int .i64 0]), 5, 40) := by kernel_rfl
    cases e : Tryz.prog.info? 50 with
    | none => rw [e] at h; cases h
    | some i =>
      rw [e] at h
      simp only [Option.map_some, Option.some.injEq, Prod.mk.injEq] at h
      exact ⟨i, _, rfl, h.1, h.2.1, h.2.2, rfl⟩
  pos := by decide
  byt := by decide
  len := fun _ => rfl
  one := fun a u hu => by
    simp only [rqrow, List.mem_cons, List.not_mem_nil, or_false] at hu
    rcases hu with rfl | rfl | rfl | rfl | rfl <;> rfl
abbrev RqAt := Rd 5 rqrow
abbrev RqOwn (w : World) (g0 : Nat) (v : Value) (q : List Rq) : Prop := Own 50 5 rqrow w g0 v q
theorem RqOwn.rd {w : World} {g0 : Nat} {v : Value} {q : List Rq} (h : RqOwn w g0 v q) : RqAt w v q := Own.rd (fun _ => rfl) h
/-- A head in a box. -/
structure HBox (w : World) (p : Nat) (t r : Int) (v : Value) (W : Int) : Prop where
  lt : p < w.heap.size
  c0 : w.cell? ⟨p, 0, none⟩ = some (.int .i64 t)
  c1 : w.cell? ⟨p, 1, none⟩ = some (.int .i64 r)
  c2 : w.cell? ⟨p, 2, none⟩ = some v
  c3 : w.cell? ⟨p, 3, none⟩ = some (.int .i64 W)
theorem HBox.nw {w w' : World} {p : Nat} {t r : Int} {v : Value} {W : Int} (h : HBox w p t r v W) (g : Nw w w') : HBox w' p t r v W :=
  ⟨Nat.lt_of_lt_of_le h.lt g.sz, (g.cell h.lt).trans h.c0, (g.cell h.lt).trans h.c1, (g.cell h.lt).trans h.c2, (g.cell h.lt).trans h.c3⟩
theorem HBox.made (w : World) (t r : Int) (v : Value) (W : Int) (T : TypeId) : HBox (w.alloc (.cells #[.int .i64 t, .int .i64 r, v, .int .i64 W] T)) w.heap.size t r v W := by
  have h := allocAt w (.cells #[.int .i64 t, .int .i64 r, v, .int .i64 W] T)
  exact ⟨hlt h, hcell h, hcell h, hcell h, hcell h⟩

end Go.Proofs.YtpffldfpabglbaaGreatDoor
end

/- The developers' bucket in memory; SortedFunc over its map's names; each. -/
section
namespace Go.Proofs.YtpffldfpabglbaaGreatDoor
open Go.RowKit Go.Sort Go.Shelf
set_option linter.unusedVariables false      -- a contract need not use every name
attribute [local go_sem] Oper.semAt_some

def hpV (x : Hp) : Value := .slice x.a x.h.q.length x.c
/-- A head of the bucket: its block, its requests; none of it is the pool's. -/
structure HpOk (w : World) (F : Nat → Prop) (x : Hp) : Prop where
  c0 : w.cell? ⟨x.p, 0, none⟩ = some (.int .i64 x.h.t)
  c1 : w.cell? ⟨x.p, 1, none⟩ = some (.int .i64 x.h.r)
  c2 : w.cell? ⟨x.p, 2, none⟩ = some (.slice x.a x.h.q.length x.c)
  c3 : w.cell? ⟨x.p, 3, none⟩ = some (.int .i64 x.h.W)
  rd : RqAt w (hpV x) x.h.q
  cap : x.h.q.length ≤ x.c
  len : x.h.q.length ≤ 1000
  nf : ¬ F x.p
  qf : ∀ b, x.a = some b → x.h.q ≠ [] → ¬ F b.block
/-- The developers' bucket at o, its map at mb, its pool at po. -/
structure Db (w : World) (o mb po n : Nat) (l : List Hp) (L : List Bool) (F : Nat → Prop) : Prop where
  c0 : w.cell? ⟨o, 0, none⟩ = some (.pointer (some ⟨o, 0, none⟩))
  c1 : w.cell? ⟨o, 1, none⟩ = some (.int .i64 n)
  c2 : w.cell? ⟨o, 2, none⟩ = some (.pointer (some ⟨po, 0, none⟩))
  c3 : w.cell? ⟨o, 3, none⟩ = some (.map (some mb))
  ol : o < w.heap.size
  nf : ¬ F o
  mf : ¬ F mb
  map : MapH w mb l
  srt : SrtP l
  ok : ∀ x ∈ l, HpOk w F x
  pol : Pol w po L F
  len : l.length ≤ 64
theorem HpOk.lt {w : World} {F : Nat → Prop} {x : Hp} (h : HpOk w F x) : x.p < w.heap.size := World.block_lt_of_cell? _ _ h.c0
theorem MapH.cellne {w : World} {mb : Nat} {l : List Hp} (h : MapH w mb l) {b j : Nat} {v : Value} (hc : w.cell? ⟨b, j, none⟩ = some v) : b ≠ mb := by
  obtain ⟨⟨es, ⟨a, c, h1, _⟩, _⟩, _⟩ := h
  rintro rfl
  unfold World.cell? at hc
  simp only [h1] at hc
  cases hc
theorem Db.omb {w : World} {o mb po n : Nat} {l : List Hp} {L : List Bool} {F : Nat → Prop} (h : Db w o mb po n l L F) : o ≠ mb := h.map.cellne h.c0
/-- A head's requests lie in cells: they are no map. -/
theorem HpOk.qne {w : World} {F : Nat → Prop} {x : Hp} (h : HpOk w F x) {mb : Nat} {l : List Hp} (m : MapH w mb l) : ∀ b, x.a = some b → x.h.q ≠ [] → b.block ≠ mb := fun b e hq => by
  obtain ⟨a, c, e1, ⟨q, _⟩ | ⟨b', o', e2, hc⟩⟩ := h.rd
  · exact absurd q hq
  · unfold hpV at e1
    rw [e, e2] at e1
    injection e1 with e1 _ _
    injection e1 with e1
    subst e1
    obtain ⟨y, t, hy⟩ := List.exists_cons_of_ne_nil hq
    have h0 : 0 < x.h.q.length := by rw [hy]; simp
    have := hc.cell 0 h0 0 _ rfl
    exact m.cellne this
theorem HpOk.step {w w' : World} {F F' : Nat → Prop} {x : Hp} {S : Nat → Prop} (h : HpOk w F x) (t : Tch S w w') (hp : ¬ S x.p) (hq : ∀ b, x.a = some b → x.h.q ≠ [] → ¬ S b.block) (hF : ∀ k, F' k → F k ∨ w.heap.size ≤ k) : HpOk w' F' x := by
  have hpl := h.lt
  refine ⟨(t.cell hpl hp).trans h.c0, (t.cell hpl hp).trans h.c1, (t.cell hpl hp).trans h.c2, (t.cell hpl hp).trans h.c3, ?_, h.cap, h.len, fun e => (hF _ e).elim h.nf (fun q => by omega), fun b e hne q => ?_⟩
  · obtain ⟨a, c, e, q | ⟨b, o', e2, hc⟩⟩ := h.rd
    · exact ⟨a, c, e, .inl q⟩
    · subst e2
      by_cases hqn : x.h.q = []
      · exact ⟨_, c, e, .inl ⟨hqn, fun q => by cases q⟩⟩
      have hb : ¬ S b := hq _ (by unfold hpV at e; injection e) hqn
      exact ⟨_, c, e, .inr ⟨b, o', rfl, Nat.lt_of_lt_of_le hc.lt t.size, fun i hi c u hu => (t.cell hc.lt hb).trans (hc.cell i hi c u hu)⟩⟩
  · rcases hF _ q with q | q
    · exact h.qf b e hne q
    · obtain ⟨a, c, e1, ⟨q1, _⟩ | ⟨b', o', e2, hc⟩⟩ := h.rd
      · exact hne q1
      · unfold hpV at e1
        rw [e, e2] at e1
        injection e1 with e1 _ _
        injection e1 with e1
        subst e1
        have := hc.lt
        have e3 : (⟨b', o', none⟩ : Addr).block = b' := rfl
        omega
/-- Blocks that are none of the bucket's and none of its pool's may change. -/
theorem Db.tch {w w' : World} {o mb po n : Nat} {l : List Hp} {L : List Bool} {F : Nat → Prop} {S : Nat → Prop} (h : Db w o mb po n l L F) (t : Tch S w w') (ho : ¬ S o) (hm : ¬ S mb) (hF : ∀ k, F k → ¬ S k) (hx : ∀ x ∈ l, ¬ S x.p ∧ ∀ b, x.a = some b → x.h.q ≠ [] → ¬ S b.block) : Db w' o mb po n l L F :=
  ⟨(t.cell h.ol ho).trans h.c0, (t.cell h.ol ho).trans h.c1, (t.cell h.ol ho).trans h.c2, (t.cell h.ol ho).trans h.c3, Nat.lt_of_lt_of_le h.ol t.size, h.nf, h.mf, h.map.tch t hm, h.srt,
    fun x q => (h.ok x q).step t (hx x q).1 (hx x q).2 (fun k e => .inl e), h.pol.tch t hF, h.len⟩
theorem Db.nw {w w' : World} {o mb po n : Nat} {l : List Hp} {L : List Bool} {F : Nat → Prop} (h : Db w o mb po n l L F) (g : Nw w w') : Db w' o mb po n l L F := h.tch (Tch.nw (S := fun _ => False) g) (fun e => e) (fun e => e) (fun _ _ e => e) (fun _ _ => ⟨fun e => e, fun _ _ _ e => e⟩)
/-- The blocks of a bucket's heads. -/
def HdIn (l : List Hp) (b : Nat) : Prop := ∃ x ∈ l, b = x.p ∨ ∃ a, x.a = some a ∧ x.h.q ≠ [] ∧ b = a.block
/-- Heads lie where some lay, or in new blocks. -/
def HdN (w : World) (l l' : List Hp) : Prop := ∀ b, HdIn l' b → HdIn l b ∨ w.heap.size ≤ b
theorem HdN.refl (w : World) (l : List Hp) : HdN w l l := fun _ e => .inl e
theorem HdN.pre {w w1 : World} {l l' : List Hp} (h : HdN w1 l l') (g : w.heap.size ≤ w1.heap.size) : HdN w l l' := fun b e => (h b e).imp id (fun q => Nat.le_trans g q)
/-- What a call comes to. -/
def DbTo (w : World) (o mb po n : Nat) (F : Nat → Prop) (l : List Hp) (w' : World) (l' : List Hp) (L' : List Bool) : Prop := ∃ F', Db w' o mb po n l' L' F' ∧ (∀ k, F' k → F k ∨ w.heap.size ≤ k) ∧ Tch (fun b => b = mb ∨ F b) w w' ∧ HdN w l l'
theorem Db.to {w w' : World} {o mb po n : Nat} {l : List Hp} {L : List Bool} {F : Nat → Prop} (h : Db w o mb po n l L F) (g : Nw w w') : DbTo w o mb po n F l w' l L := ⟨F, h.nw g, fun _ e => .inl e, Tch.nw g, HdN.refl w l⟩
theorem DbTo.pre {w w1 w' : World} {o mb po n : Nat} {F : Nat → Prop} {l l' : List Hp} {L' : List Bool} (g : Nw w w1) (h : DbTo w1 o mb po n F l w' l' L') : DbTo w o mb po n F l w' l' L' := by
  obtain ⟨F', h1, h2, h3, h4⟩ := h
  exact ⟨F', h1, fun k e => (h2 k e).imp id (fun q => Nat.le_trans g.sz q), (Tch.nw g).trans h3, h4.pre g.sz⟩
theorem DbTo.nw {w w1 w' : World} {o mb po n : Nat} {F : Nat → Prop} {l l' : List Hp} {L' : List Bool} (h : DbTo w o mb po n F l w1 l' L') (g : Nw w1 w') : DbTo w o mb po n F l w' l' L' := by
  obtain ⟨F', h1, h2, h3, h4⟩ := h
  exact ⟨F', h1.nw g, h2, h3.trans (Tch.nw g), h4⟩
/-- The pool takes a step. -/
theorem Db.pool {w w' : World} {o mb po n : Nat} {l : List Hp} {L L' : List Bool} {F : Nat → Prop} (h : Db w o mb po n l L F) (k : PolTo w po F L' w') : DbTo w o mb po n F l w' l L' := by
  obtain ⟨F', h1, h2, h3⟩ := k
  have hml := h.map.lt
  have hol := h.ol
  refine ⟨F', ⟨(h3.cell hol h.nf).trans h.c0, (h3.cell hol h.nf).trans h.c1, (h3.cell hol h.nf).trans h.c2, (h3.cell hol h.nf).trans h.c3, Nat.lt_of_lt_of_le hol h3.size, fun e => (h2 _ e).elim h.nf (fun q => by omega), fun e => (h2 _ e).elim h.mf (fun q => by omega), h.map.tch h3 h.mf, h.srt,
    fun x q => (h.ok x q).step h3 (h.ok x q).nf (h.ok x q).qf h2, h1, h.len⟩, h2, h3.mono (fun _ _ e => .inr e), HdN.refl w l⟩
theorem DbTo.then {w w1 w' : World} {o mb po n : Nat} {F : Nat → Prop} {l l1 l' : List Hp} {L1 L' : List Bool} (h : DbTo w o mb po n F l w1 l1 L1) (k : ∀ F1, Db w1 o mb po n l1 L1 F1 → DbTo w1 o mb po n F1 l1 w' l' L') : DbTo w o mb po n F l w' l' L' := by
  obtain ⟨F1, h1, h2, h3, h4⟩ := h
  obtain ⟨F', k1, k2, k3, k4⟩ := k F1 h1
  exact ⟨F', k1, fun b e => (k2 b e).elim (h2 b) (fun q => .inr (Nat.le_trans h3.size q)), h3.trans' k3 (fun b hb e => e.elim .inl (fun e => (h2 b e).elim .inr (fun q => by omega))), fun b e => (k4 b e).elim (h4 b) (fun q => .inr (Nat.le_trans h3.size q))⟩

theorem srtN_eq {ss : List (Int × Int)} {l : List Hp} (p : ss.Perm (nmsP l)) (s : SrtP l) : srtN ss = nmsP l := by
  have tr : ∀ a b c : Int × Int, (!(ltOf cmpN b a)) = true → (!(ltOf cmpN c b)) = true → (!(ltOf cmpN c a)) = true := fun a b c h1 h2 => by
    rw [cmpN_lt] at *; simp only [Bool.not_eq_true', decide_eq_false_iff_not] at *; unfold nlt at *; omega
  have to : ∀ a b : Int × Int, ((!(ltOf cmpN b a)) || !(ltOf cmpN a b)) = true := fun a b => by
    rw [cmpN_lt, cmpN_lt]; simp only [Bool.or_eq_true, Bool.not_eq_true', decide_eq_false_iff_not]; unfold nlt; omega
  refine List.Perm.eq_of_pairwise (le := fun a b => (!(ltOf cmpN b a)) = true) (fun a b _ _ h1 h2 => cmpN_tot a b (by simpa using h2) (by simpa using h1)) (List.pairwise_mergeSort tr to ss) ?_ ((List.mergeSort_perm ss _).trans p)
  refine List.pairwise_map.2 (s.imp fun {a b} h => ?_)
  rw [cmpN_lt]
  simp only [Bool.not_eq_true', decide_eq_false_iff_not]
  intro q
  exact nlt_irr _ (nlt_tr h q)
set_option maxHeartbeats 1000000 in
theorem sortedFunc_any (gf : Nat) (lb : Array Value) (eg : ∀ args w, (callFunc gf args).run Tryz.prog w = .ok (.enter gf args) w) (Pre Fin : List (Int × Int) → Prop) (S0 : Nat → Prop) (w : World) (hsm : ∀ xs, Pre xs → xs.length ≤ 100000) (hfm : ∀ xs, Fin xs → xs.length ≤ 100000)
    (hS0 : ∀ k, S0 k → k < w.heap.size) (hseq : SeqB Fence.wide 4 Tryz.prog gf #[] lb nmV Pre Fin S0 w) :
    Calls Tryz.prog 186 #[.func (.func gf) #[] lb, .func (.func 188) #[] #[]] w fun e w' => ∃ v xs, e = .returned v ∧ Fin xs ∧ NmOwn w' w.heap.size v (srtN xs) ∧ Nw w w' := by
  have HC := Lib.hid (collectNames gf lb eg Pre Fin S0 w hsm hS0 hseq)
  clear hseq hS0 hsm
  go_enter Tryz.func186, Tryz.ntmps186
  go_wp2_with fail
  refine HC.out.mono ?_
  rintro e w1 ⟨v, xs, rfl, hf, hO, g1⟩
  have hxl := hfm xs hf
  have HF := Lib.hid (And.intro hf g1)
  have HO := Lib.hid hO
  rcases oform hO with ⟨rfl, hz⟩ | ⟨g, cap, rfl⟩
  · have HS := Lib.hid (AnyF.slices_SortFunc_none (P := Tryz.prog) { Tryz.sortN with } none 0 (.func (.func 188) #[] #[]) w1)
    have hx : xs = [] := List.length_eq_zero_iff.1 hz
    subst hx
    clear hO hf g1 hxl hz hfm
    go_wp2_with fail
    refine Calls.mono HS.out ?_
    rintro e w2 ⟨rfl, rfl⟩
    go_wp2
    go_ret
    have e0 : srtN ([] : List (Int × Int)) = [] := by unfold srtN; simp
    exact ⟨_, [], rfl, HF.out.1, by rw [e0]; exact HO.out, HF.out.2⟩
  · have HS := Lib.hid (sort_names w.heap.size g cap xs w1 hO hxl)
    have HG := Lib.hid (oge hO rfl)
    clear hO hf g1 hxl hfm
    go_wp2_with fail
    refine HS.out.mono ?_
    rintro e w2 ⟨rfl, hO2, ht⟩
    have HO2 := Lib.hid hO2
    have HT := Lib.hid ht
    clear hO2 ht
    go_wp2
    go_ret
    exact ⟨_, xs, rfl, HF.out.1, HO2.out, nw_tch HF.out.2 HT.out (fun i e => by have := HG.out; omega)⟩
end Go.Proofs.YtpffldfpabglbaaGreatDoor
end

/- Several of the developers' buckets with one pool: a call of one leaves the others. -/
section
namespace Go.Proofs.YtpffldfpabglbaaGreatDoor
open Go.RowKit
set_option linter.unusedVariables false

theorem Db.other {w w' : World} {o mb po n mb' : Nat} {l l2 : List Hp} {L L' : List Bool} {F F' : Nat → Prop} (h : Db w o mb po n l L F) (m2 : MapH w mb' l2) (hne : mb ≠ mb') (t : Tch (fun b => b = mb' ∨ F b) w w') (hp : Pol w' po L' F') (hF : ∀ k, F' k → F k ∨ w.heap.size ≤ k) : Db w' o mb po n l L' F' := by
  have hol := h.ol
  have hml := h.map.lt
  have ho : ¬ (o = mb' ∨ F o) := fun e => e.elim (m2.cellne h.c0) h.nf
  have hm : ¬ (mb = mb' ∨ F mb) := fun e => e.elim hne h.mf
  exact ⟨(t.cell hol ho).trans h.c0, (t.cell hol ho).trans h.c1, (t.cell hol ho).trans h.c2, (t.cell hol ho).trans h.c3, Nat.lt_of_lt_of_le hol t.size, fun e => (hF _ e).elim h.nf (fun q => by omega), fun e => (hF _ e).elim h.mf (fun q => by omega), h.map.tch t hm, h.srt,
    fun x q => (h.ok x q).step t (fun e => e.elim (m2.cellne (h.ok x q).c0) (h.ok x q).nf) (fun b e hq e2 => e2.elim ((h.ok x q).qne m2 b e hq) ((h.ok x q).qf b e hq)) hF, hp, h.len⟩
end Go.Proofs.YtpffldfpabglbaaGreatDoor
end

/- Plain facts of tables: several buckets that share their numbers. Of no program. -/
section
namespace Go.Proofs.YtpffldfpabglbaaGreatDoor
set_option linter.unusedVariables false

/-- All numbers of requests. -/
def tIds (hss : List (List Hq)) : List Int := hss.flatMap allIds
/-- Those of the other buckets. -/
def tOth (hss : List (List Hq)) (i : Nat) : List Int := tIds (hss.take i) ++ tIds (hss.drop (i + 1))
/-- What holds of a bucket, but for its numbers. -/
structure BPart (most k : Nat) (hs : List Hq) : Prop where
  srt : SrtH hs
  len : hs.length ≤ most
  inv : ∀ h ∈ hs, HInv h
  ne : ∀ h ∈ hs, h.q ≠ []
  wt : ∀ h ∈ hs, h.W ≤ k
  ql : ∀ h ∈ hs, h.q.length ≤ k
theorem BInv.part {most k : Nat} {hs : List Hq} {X : List Int} {L : List Bool} (b : BInv most k hs X L) : BPart most k hs := ⟨b.srt, b.len, b.inv, b.ne, b.wt, b.ql⟩
theorem BPart.more {most k k' : Nat} {hs : List Hq} (b : BPart most k hs) (h : k ≤ k') : BPart most k' hs := ⟨b.srt, b.len, b.inv, b.ne, fun x hx => by have := b.wt x hx; omega, fun x hx => by have := b.ql x hx; omega⟩
/-- A table's buckets and the numbers that are lent. -/
structure TbInv (most k : Nat) (hss : List (List Hq)) (L : List Bool) : Prop where
  part : ∀ hs ∈ hss, BPart most k hs
  ids : (tIds hss).Perm (castL (lnt L))
theorem tIds_app (a b : List (List Hq)) : tIds (a ++ b) = tIds a ++ tIds b := by unfold tIds; rw [List.flatMap_append]
theorem tIds_split {hss : List (List Hq)} {i : Nat} (hi : i < hss.length) : (tIds hss).Perm (allIds hss[i] ++ tOth hss i) := by
  have e : hss = hss.take i ++ hss[i] :: hss.drop (i + 1) := by rw [← List.drop_eq_getElem_cons hi, List.take_append_drop]
  have e2 : tIds hss = tIds (hss.take i) ++ (allIds hss[i] ++ tIds (hss.drop (i + 1))) := by
    conv => lhs; rw [e]
    rw [tIds_app]
    rfl
  rw [e2]
  unfold tOth
  rw [← List.append_assoc, ← List.append_assoc]
  exact List.perm_append_comm.append_right _
theorem tOth_set (hss : List (List Hq)) (i : Nat) (hs : List Hq) : tOth (hss.set i hs) i = tOth hss i := by
  unfold tOth
  rw [List.take_set_of_le (Nat.le_refl i), List.drop_set_of_lt (Nat.lt_succ_self i)]
theorem TbInv.get {most k : Nat} {hss : List (List Hq)} {L : List Bool} (t : TbInv most k hss L) {i : Nat} (hi : i < hss.length) : BInv most k hss[i] (tOth hss i) L := by
  have b := t.part _ (List.getElem_mem hi)
  exact ⟨b.srt, b.len, b.inv, b.ne, (tIds_split hi).symm.trans t.ids, b.wt, b.ql⟩
theorem TbInv.put {most k : Nat} {hss : List (List Hq)} {L L' : List Bool} (t : TbInv most k hss L) {i : Nat} (hi : i < hss.length) {hs : List Hq} (b : BInv most (k + 1) hs (tOth hss i) L') : TbInv most (k + 1) (hss.set i hs) L' := by
  refine ⟨fun x hx => ?_, ?_⟩
  · rcases List.mem_or_eq_of_mem_set hx with q | rfl
    · exact (t.part x q).more (Nat.le_succ k)
    · exact b.part
  · have hi' : i < (hss.set i hs).length := by rw [List.length_set]; exact hi
    refine (tIds_split hi').trans ?_
    rw [List.getElem_set_self, tOth_set]
    exact b.ids
theorem TbInv.more {most k k' : Nat} {hss : List (List Hq)} {L : List Bool} (t : TbInv most k hss L) (h : k ≤ k') : TbInv most k' hss L := ⟨fun x hx => (t.part x hx).more h, t.ids⟩
theorem tbinv_nil (most S n : Nat) : TbInv most 0 (List.replicate S []) (List.replicate n false) := by
  refine ⟨fun x hx => ?_, ?_⟩
  · obtain ⟨_, rfl⟩ := List.mem_replicate.1 hx
    exact (binv_nil most n).part
  · rw [lnt_none]
    have : tIds (List.replicate S ([] : List Hq)) = [] := by
      unfold tIds
      rw [List.flatMap_eq_nil_iff]
      intro x hx
      obtain ⟨_, rfl⟩ := List.mem_replicate.1 hx
      rfl
    rw [this]
    exact .refl _
theorem TbInv.nodup {most k : Nat} {hss : List (List Hq)} {L : List Bool} (t : TbInv most k hss L) : (tIds hss).Nodup := (cast_nodup (asc_nodup (lnt_asc L))).perm t.ids.symm
theorem TbInv.mem {most k : Nat} {hss : List (List Hq)} {L : List Bool} (t : TbInv most k hss L) {id : Int} : id ∈ tIds hss ↔ hsL L id = true := by
  rw [← mem_lnt, ← t.ids.mem_iff]
/-- Requests are counted by the numbers that are lent. -/
theorem TbInv.count {most k : Nat} {hss : List (List Hq)} {L : List Bool} (t : TbInv most k hss L) : (hss.map fun hs => (hs.map fun x => x.q.length).sum).sum = liv L := by
  have e : (tIds hss).length = (hss.map fun hs => (hs.map fun x => x.q.length).sum).sum := by
    unfold tIds
    rw [List.length_flatMap]
    congr 1
    apply List.map_congr_left
    intro x _
    exact all_len x
  rw [← e, t.ids.length_eq]
  simp [castL, liv_lnt]
/-- The bucket that has a request: there is one at most. -/
theorem TbInv.one {most k : Nat} {hss : List (List Hq)} {L : List Bool} (t : TbInv most k hss L) {i j : Nat} (hi : i < hss.length) (hj : j < hss.length) {id : Int} (h1 : id ∈ allIds hss[i]) (h2 : id ∈ allIds hss[j]) : i = j := by
  refine Classical.byContradiction fun ne => ?_
  have nd := (t.get hi).nodupX
  have h3 := (List.nodup_append.1 nd).2.2 id h1
  refine h3 id ?_ rfl
  unfold tOth
  rcases Nat.lt_or_ge j i with q | q
  · refine List.mem_append_left _ (List.mem_flatMap.2 ⟨hss[j], ?_, h2⟩)
    exact List.mem_iff_getElem.2 ⟨j, by rw [List.length_take]; omega, by rw [List.getElem_take]⟩
  · refine List.mem_append_right _ (List.mem_flatMap.2 ⟨hss[j], ?_, h2⟩)
    exact List.mem_iff_getElem.2 ⟨j - (i + 1), by rw [List.length_drop]; omega, by rw [List.getElem_drop]; congr 1; omega⟩
end Go.Proofs.YtpffldfpabglbaaGreatDoor
end

/- Several of the developers' buckets with one pool, in memory. -/
section
namespace Go.Proofs.YtpffldfpabglbaaGreatDoor
open Go.RowKit
set_option linter.unusedVariables false

/-- A bucket of the developers' in memory. -/
structure DB where
  o : Nat
  mb : Nat
  l : List Hp
structure DtB (w : World) (po n : Nat) (ds : List DB) (L : List Bool) (F : Nat → Prop) : Prop where
  db : ∀ d ∈ ds, Db w d.o d.mb po n d.l L F
  ne : ∀ i j (hi : i < ds.length) (hj : j < ds.length), i ≠ j → ds[i].mb ≠ ds[j].mb
  pol : Pol w po L F
theorem DtB.nw {w w' : World} {po n : Nat} {ds : List DB} {L : List Bool} {F : Nat → Prop} (h : DtB w po n ds L F) (g : Nw w w') : DtB w' po n ds L F := ⟨fun d hd => (h.db d hd).nw g, h.ne, h.pol.nw g⟩
/-- A call of one of them. -/
theorem DtB.put {w w' : World} {po n : Nat} {ds : List DB} {L L' : List Bool} {F : Nat → Prop} (h : DtB w po n ds L F) {i : Nat} (hi : i < ds.length) {l' : List Hp} (d : DbTo w ds[i].o ds[i].mb po n F ds[i].l w' l' L') :
    ∃ F', DtB w' po n (ds.set i ⟨ds[i].o, ds[i].mb, l'⟩) L' F' ∧ (∀ k, F' k → F k ∨ w.heap.size ≤ k) ∧ Tch (fun b => b = ds[i].mb ∨ F b) w w' ∧ HdN w ds[i].l l' := by
  obtain ⟨F', d1, d2, d3, d4⟩ := d
  have hdi := h.db _ (List.getElem_mem hi)
  refine ⟨F', ⟨fun b hb => ?_, fun j m hj hm ne => ?_, d1.pol⟩, d2, d3, d4⟩
  · obtain ⟨j, hj, rfl⟩ := List.getElem_of_mem hb
    rw [List.length_set] at hj
    by_cases e : i = j
    · subst e
      rw [List.getElem_set_self]
      exact d1
    · rw [List.getElem_set_ne e]
      exact (h.db _ (List.getElem_mem hj)).other hdi.map (h.ne j i hj hi (fun q => e q.symm)) d3 d1.pol d2
  · rw [List.length_set] at hj hm
    have key : ∀ (m : Nat) (hm : m < (ds.set i ⟨ds[i].o, ds[i].mb, l'⟩).length) (hm2 : m < ds.length), (ds.set i ⟨ds[i].o, ds[i].mb, l'⟩)[m].mb = ds[m].mb := fun m hm hm2 => by
      by_cases e : i = m
      · subst e; rw [List.getElem_set_self]
      · rw [List.getElem_set_ne e]
    rw [key j _ hj, key m _ hm]
    exact h.ne j m hj hm ne
/-- The same as plain heads: what a bucket's call asks. -/
def hssD (ds : List DB) : List (List Hq) := ds.map fun d => hsP d.l
theorem hssD_set (ds : List DB) (i : Nat) (d : DB) : hssD (ds.set i d) = (hssD ds).set i (hsP d.l) := by unfold hssD; rw [List.map_set]
theorem hssD_get {ds : List DB} {i : Nat} (hi : i < ds.length) : (hssD ds)[i]? = some (hsP ds[i].l) := by unfold hssD; rw [List.getElem?_map, List.getElem?_eq_getElem hi]; rfl
theorem DtB.inv {ds : List DB} {n k : Nat} {L : List Bool} (t : TbInv n k (hssD ds) L) {i : Nat} (hi : i < ds.length) : BInv n k (hsP ds[i].l) (tOth (hssD ds) i) L := by
  have hi' : i < (hssD ds).length := by unfold hssD; rw [List.length_map]; exact hi
  have b := t.get hi'
  have e : (hssD ds)[i] = hsP ds[i].l := by
    have := hssD_get hi
    rw [List.getElem?_eq_getElem hi'] at this
    exact Option.some.inj this
  rw [e] at b
  exact b
/-- All their blocks. -/
def DtIn (ds : List DB) (F : Nat → Prop) (b : Nat) : Prop := F b ∨ ∃ d ∈ ds, b = d.o ∨ b = d.mb ∨ HdIn d.l b
theorem DtB.lt {w : World} {po n : Nat} {ds : List DB} {L : List Bool} {F : Nat → Prop} (h : DtB w po n ds L F) : ∀ b, DtIn ds F b → b < w.heap.size := by
  rintro b (e | ⟨d, hd, rfl | rfl | ⟨x, hx, rfl | ⟨a, e, hq, rfl⟩⟩⟩)
  · exact h.pol.own b e
  · exact (h.db d hd).ol
  · exact (h.db d hd).map.lt
  · exact ((h.db d hd).ok x hx).lt
  · obtain ⟨a', c, e1, ⟨q, _⟩ | ⟨b', o', e2, hc⟩⟩ := ((h.db d hd).ok x hx).rd
    · exact absurd q hq
    · unfold hpV at e1
      rw [e, e2] at e1
      injection e1 with e1 _ _
      injection e1 with e1
      subst e1
      exact hc.lt
/-- Blocks that are none of theirs may change. -/
theorem DtB.tchS {w w' : World} {S : Nat → Prop} {po n : Nat} {ds : List DB} {L : List Bool} {F : Nat → Prop} (h : DtB w po n ds L F) (t : Tch S w w') (hS : ∀ b, DtIn ds F b → ¬ S b) : DtB w' po n ds L F :=
  ⟨fun d hd => (h.db d hd).tch t (hS _ (.inr ⟨d, hd, .inl rfl⟩)) (hS _ (.inr ⟨d, hd, .inr (.inl rfl)⟩)) (fun k e => hS k (.inl e)) (fun x hx => ⟨hS _ (.inr ⟨d, hd, .inr (.inr ⟨x, hx, .inl rfl⟩)⟩), fun a e hq => hS _ (.inr ⟨d, hd, .inr (.inr ⟨x, hx, .inr ⟨a, e, hq, rfl⟩⟩)⟩)⟩), h.ne, h.pol.tch t (fun k e => hS k (.inl e))⟩
/-- Where they lie behind a call of one. -/
theorem DtB.in_put {w : World} {ds : List DB} {F F' : Nat → Prop} {i : Nat} (hi : i < ds.length) {l' : List Hp} (d2 : ∀ k, F' k → F k ∨ w.heap.size ≤ k) (d4 : HdN w ds[i].l l') : ∀ b, DtIn (ds.set i ⟨ds[i].o, ds[i].mb, l'⟩) F' b → DtIn ds F b ∨ w.heap.size ≤ b := by
  rintro b (e | ⟨d, hd, e⟩)
  · exact (d2 b e).imp .inl id
  · rcases List.mem_or_eq_of_mem_set hd with q | rfl
    · exact .inl (.inr ⟨d, q, e⟩)
    · have hm := List.getElem_mem hi
      rcases e with e | e | e
      · exact .inl (.inr ⟨_, hm, .inl e⟩)
      · exact .inl (.inr ⟨_, hm, .inr (.inl e)⟩)
      · exact (d4 b e).imp (fun q => .inr ⟨_, hm, .inr (.inr q)⟩) id
end Go.Proofs.YtpffldfpabglbaaGreatDoor
end

/- Plain facts of tables: all heads by ascending names. Of no program. -/
section
namespace Go.Proofs.YtpffldfpabglbaaGreatDoor
set_option linter.unusedVariables false

/-- All heads, put one by one. -/
def snapT (hss : List (List Hq)) : List Hq := hss.flatten.foldl putH []
def ApartN (hs : List Hq) : Prop := hs.Pairwise fun x y => nmH x ≠ nmH y
theorem put_new' {hs : List Hq} (s : SrtH hs) {x : Hq} (hn : ∀ a ∈ hs, nmH a ≠ nmH x) : SrtH (putH hs x) ∧ (putH hs x).Perm (x :: hs) := by
  obtain ⟨l, m, rfl, e, s2⟩ := put_no s hn
  rw [e]
  exact ⟨s2, List.perm_middle⟩
theorem puts {l : List Hq} : ∀ {acc : List Hq}, SrtH acc → (∀ a ∈ acc, ∀ x ∈ l, nmH a ≠ nmH x) → ApartN l → SrtH (l.foldl putH acc) ∧ (l.foldl putH acc).Perm (acc ++ l) := by
  induction l with
  | nil => intro acc s _ _; exact ⟨s, by simp⟩
  | cons x t ih =>
    intro acc s h1 h2
    obtain ⟨h3, h4⟩ := List.pairwise_cons.1 h2
    obtain ⟨s2, p2⟩ := put_new' s (fun a ha => h1 a ha x (by simp))
    obtain ⟨s3, p3⟩ := ih s2 (fun a ha y hy => by
      rcases List.mem_cons.1 (p2.mem_iff.1 ha) with rfl | q
      · exact h3 y hy
      · exact h1 a q y (List.mem_cons_of_mem _ hy)) h4
    refine ⟨s3, p3.trans ?_⟩
    exact (p2.append_right t).trans (by simpa using (List.perm_middle (a := x) (l₁ := acc) (l₂ := t)).symm)
theorem snap_srt {hss : List (List Hq)} (h : ApartN hss.flatten) : SrtH (snapT hss) ∧ (snapT hss).Perm hss.flatten := by
  have := puts (acc := []) (l := hss.flatten) (by simp [SrtH]) (by simp) h
  simpa [snapT] using this
/-- Heads in strict order are told by which they are. -/
theorem srt_eq {a b : List Hq} (ha : SrtH a) (hb : SrtH b) (p : a.Perm b) : a = b := by
  refine List.Perm.eq_of_pairwise (le := fun x y => nlt (nmH x) (nmH y)) (fun x y _ _ h1 h2 => ?_) ha hb p
  exact absurd (nlt_tr h1 h2) (nlt_irr _)
theorem snap_eq {hss : List (List Hq)} (h : ApartN hss.flatten) {l : List Hq} (s : SrtH l) (p : l.Perm hss.flatten) : l = snapT hss := srt_eq s (snap_srt h).1 (p.trans (snap_srt h).2.symm)
/-- Heads of different stripes have different names. -/
theorem apart_st {hss : List (List Hq)} (hs : ∀ l ∈ hss, SrtH l) (k : Int × Int → Nat) (hk : ∀ i (hi : i < hss.length), ∀ x ∈ hss[i], k (nmH x) = i) : ApartN hss.flatten := by
  unfold ApartN
  rw [List.pairwise_flatten]
  refine ⟨fun l hl => ?_, ?_⟩
  · refine (hs l hl).imp fun {a b} h e => ?_
    rw [e] at h
    exact nlt_irr _ h
  · rw [List.pairwise_iff_getElem]
    intro i j hi hj hij x hx y hy e
    have h1 := hk i hi x hx
    have h2 := hk j hj y hy
    rw [e] at h1
    omega
/-- Where a request is, if the buckets are asked in order. -/
def atT : List (List Hq) → Int → Option Nat
  | [], _ => none
  | hs :: t, id => if (ofId hs id).isSome then some 0 else (atT t id).map (· + 1)
theorem atT_some {hss : List (List Hq)} {id : Int} {i : Nat} (h : atT hss id = some i) : ∃ hi : i < hss.length, (ofId hss[i] id).isSome = true ∧ ∀ j (hj : j < hss.length), j < i → ofId hss[j] id = none := by
  induction hss generalizing i with
  | nil => cases h
  | cons a t ih =>
    unfold atT at h
    by_cases e : (ofId a id).isSome = true
    · rw [if_pos e] at h
      obtain rfl : 0 = i := Option.some.inj h
      exact ⟨by simp, e, fun j hj hlt => by omega⟩
    · rw [if_neg e] at h
      cases q : atT t id with
      | none => rw [q] at h; cases h
      | some m =>
        rw [q] at h
        obtain rfl : m + 1 = i := Option.some.inj h
        obtain ⟨h1, h2, h3⟩ := ih q
        refine ⟨by simp; omega, by simpa using h2, fun j hj hlt => ?_⟩
        cases j with
        | zero => simpa using e
        | succ j => simpa using h3 j (by simp at hj; omega) (by omega)
end Go.Proofs.YtpffldfpabglbaaGreatDoor
end

/- Plain facts of tables: what all hold, by transactions, then by names. Of no program. -/
section
namespace Go.Proofs.YtpffldfpabglbaaGreatDoor
set_option linter.unusedVariables false

/-- A lock that is held: transaction, name, mode. -/
structure Hl where
  x : Int
  t : Int
  r : Int
  m : Int
def hdsT (s : List Hq) (txn : Int) : List Hl := (s.filter fun h => !(mdQ h.q txn == 0)).map fun h => ⟨txn, h.t, h.r, mdQ h.q txn⟩
def txT (s : List Hq) : List Int := (s.flatMap fun h => h.q).foldl (fun l o => putL o.txn l) []
def allT (s : List Hq) : List Hl := (txT s).flatMap (hdsT s)
/-- The same, head by head. -/
def entT (s : List Hq) : List Hl := s.flatMap fun h => (h.q.filter fun r => !(r.md == 0)).map fun r => ⟨r.txn, h.t, h.r, r.md⟩
def hlL (a b : Hl) : Prop := a.x < b.x ∨ (a.x = b.x ∧ nlt (a.t, a.r) (b.t, b.r))
theorem hlt_irr (a : Hl) : ¬ hlL a a := by unfold hlL nlt; omega
theorem hlt_tr {a b c : Hl} (h : hlL a b) (k : hlL b c) : hlL a c := by unfold hlL nlt at *; simp only at *; omega
theorem txT_srt (s : List Hq) : (txT s).Pairwise (· < ·) := by
  have key : ∀ (q : List Rq) (l : List Int), l.Pairwise (· < ·) → (q.foldl (fun l o => putL o.txn l) l).Pairwise (· < ·) := by
    intro q
    induction q with
    | nil => intro l h; exact h
    | cons a t ih => intro l h; exact ih _ (putL_sorted a.txn l h)
  exact key _ _ .nil
theorem txT_mem {s : List Hq} {x : Int} : x ∈ txT s ↔ ∃ h ∈ s, ∃ r ∈ h.q, r.txn = x := by
  unfold txT
  rw [fold_mem]
  simp only [List.not_mem_nil, false_or, List.mem_flatMap]
  constructor
  · rintro ⟨o, ⟨h, hh, ho⟩, e⟩; exact ⟨h, hh, o, ho, e⟩
  · rintro ⟨h, hh, o, ho, e⟩; exact ⟨o, ⟨h, hh, ho⟩, e⟩
theorem mdT_of {W : Int} {q : List Rq} (k : Ok W q) {r : Rq} (hr : r ∈ q) : mdQ q r.txn = r.md := by
  unfold mdQ
  cases e : q.find? fun x => x.txn == r.txn with
  | none =>
    have := List.find?_eq_none.1 e r hr
    simp at this
  | some y =>
    have h1 := List.mem_of_find?_eq_some e
    have h2 := List.find?_some e
    show y.md = r.md
    rw [k.injT y h1 r hr (by simpa using h2)]
theorem mdT_some {q : List Rq} {txn : Int} (h : mdQ q txn ≠ 0) : ∃ r ∈ q, r.txn = txn ∧ r.md = mdQ q txn := by
  unfold mdQ at h ⊢
  cases e : q.find? fun x => x.txn == txn with
  | none => rw [e] at h; exact absurd rfl h
  | some y => exact ⟨y, List.mem_of_find?_eq_some e, by simpa using List.find?_some e, rfl⟩
theorem hds_srt {s : List Hq} (h : SrtH s) (txn : Int) : (hdsT s txn).Pairwise hlL := by
  unfold hdsT
  rw [List.pairwise_map]
  refine (List.Pairwise.filter _ h).imp fun {a b} q => .inr ⟨rfl, q⟩
theorem all_srt {s : List Hq} (h : SrtH s) : (allT s).Pairwise hlL := by
  unfold allT
  rw [List.pairwise_flatMap]
  refine ⟨fun x _ => hds_srt h x, (txT_srt s).imp fun {a b} q u hu v hv => ?_⟩
  unfold hdsT at hu hv
  obtain ⟨_, _, rfl⟩ := List.mem_map.1 hu
  obtain ⟨_, _, rfl⟩ := List.mem_map.1 hv
  exact .inl q
theorem all_mem {s : List Hq} (ok : ∀ h ∈ s, Ok h.W h.q) {e : Hl} : e ∈ allT s ↔ e ∈ entT s := by
  unfold allT entT hdsT
  simp only [List.mem_flatMap, List.mem_map, List.mem_filter, Bool.not_eq_true', beq_eq_false_iff_ne]
  constructor
  · rintro ⟨x, _, h, ⟨hh, hm⟩, rfl⟩
    obtain ⟨r, hr, h1, h2⟩ := mdT_some hm
    exact ⟨h, hh, r, ⟨hr, by rw [h2]; exact hm⟩, by rw [h1, h2]⟩
  · rintro ⟨h, hh, r, ⟨hr, hm⟩, rfl⟩
    have e := mdT_of (ok h hh) hr
    exact ⟨r.txn, txT_mem.2 ⟨h, hh, r, hr, rfl⟩, h, ⟨hh, by rw [e]; exact hm⟩, by rw [e]⟩
theorem ent_nodup {s : List Hq} (h : SrtH s) (ok : ∀ h ∈ s, Ok h.W h.q) : (entT s).Nodup := by
  unfold entT
  unfold List.Nodup
  rw [List.pairwise_flatMap]
  refine ⟨fun a ha => ?_, h.imp fun {a b} q u hu v hv e => ?_⟩
  · rw [List.pairwise_map]
    refine List.Pairwise.filter _ ?_
    exact (ok a ha).pr.imp fun {x y} q e => q.txn (congrArg Hl.x e)
  · obtain ⟨_, _, rfl⟩ := List.mem_map.1 hu
    obtain ⟨_, _, rfl⟩ := List.mem_map.1 hv
    have h1 := congrArg Hl.t e
    have h2 := congrArg Hl.r e
    unfold nlt nmH at q
    simp only at h1 h2 q
    omega
theorem all_perm {s : List Hq} (h : SrtH s) (ok : ∀ h ∈ s, Ok h.W h.q) : (allT s).Perm (entT s) :=
  (List.perm_ext_iff_of_nodup ((all_srt h).imp fun {a b} q e => by subst e; exact hlt_irr _ q) (ent_nodup h ok)).2 fun _ => all_mem ok
end Go.Proofs.YtpffldfpabglbaaGreatDoor
end
