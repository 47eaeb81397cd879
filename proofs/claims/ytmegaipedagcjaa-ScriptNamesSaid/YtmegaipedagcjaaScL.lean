
/- addOp, addPick, add. -/
import Derived.Test.YtmegaipedagcjaaScK
import Derived.Test.YtmegaipedagcjaaScE
import Derived.Deep.RegionLaw
namespace Go.Proofs.Ytmegaipedagcjaa
open Go.RowKit

theorem addOp_none (B : Nat) (b : ByteArray) (w : World) (HE : Hid (∀ z, Calls Try.prog 15 #[.string b] z fun e w' => e = .returned (.tuple #[.int .i64 0, .agg #[.int .i64 0, .int .i64 0, .int .i64 0, .int .i64 0, .int .i64 0, .int .i64 0], .bool false]) ∧ Nw z w')) :
    Calls Try.prog 55 #[.pointer (some ⟨B, 0, none⟩), .string b] w fun e w' => e = .returned (.tuple #[]) ∧ Nw w w' := by
  go_enter Try.func55, Try.ntmps55
  go_wp2_with (go_at_call 15; refine (HE.out _).mono ?_; rintro e w1 ⟨rfl, g1⟩)
  exact bodyPost_ret (results_none rfl _ _ _) rfl ⟨rfl, g1.alloc _⟩
theorem getD_grow (t n : Nat) (th : List (List Od)) (h : ∀ x ∈ th, x.length ≤ 32) : ((grow n th).getD t []).length ≤ 32 := by
  rw [List.getD_eq_getElem?_getD]
  cases hq : (grow n th)[t]? with
  | none => simp
  | some x =>
    have hm := List.mem_of_getElem? hq
    rcases List.mem_append.1 hm with q | q
    · exact h x q
    · rw [List.eq_of_mem_replicate q]; simp
set_option maxRecDepth 100000 in
set_option maxHeartbeats 4000000 in
theorem addOp_some (g0 B : Nat) (s : PS) (b : ByteArray) (t : Nat) (o : Od) (w : World) (HE : Hid (∀ z, Calls Try.prog 15 #[.string b] z fun e w' => e = .returned (.tuple #[.int .i64 t, odV o, .bool true]) ∧ Nw z w'))
    (ht : t < 8) (hs : s.th.length ≤ 8) (hall : ∀ x ∈ s.th, x.length ≤ 32) (hO : Own w g0 B s) :
    Calls Try.prog 55 #[.pointer (some ⟨B, 0, none⟩), .string b] w fun e w' => e = .returned (.tuple #[]) ∧ Own w' g0 B ⟨putO t o (grow (t + 1) s.th), s.pk, s.cp⟩ ∧ Below g0 w w' ∧ Kept B w w' := by
  have hbase : g0 ≤ B ∧ B < w.heap.size := by obtain ⟨_, _, _, h⟩ := hO; exact ⟨h.base, h.lt⟩
  have hw1 : IntKind.i64.wrap ((t : Int) + 1) = (t : Int) + 1 := by rw [IntKind.wrap_i64]; omega
  have HC : Hid (∀ z, Own z g0 B s → Calls Try.prog 35 #[.pointer (some ⟨B, 0, none⟩), .int .i64 ((t : Int) + 1)] z fun e w' => e = .returned (.tuple #[]) ∧ Own w' g0 B ⟨grow (t + 1) s.th, s.pk, s.cp⟩ ∧ Below g0 z w' ∧ KeptT B z w') := Lib.hid fun z hz => by
    have := createThreads_any g0 B (t + 1) s z (by omega) (by omega) hz
    rw [Int.natCast_add] at this
    exact this
  have hO := Lib.hid hO
  go_enter Try.func55, Try.ntmps55
  go_wp2_with fail
  refine (HE.out _).mono ?_
  rintro e w1 ⟨rfl, g1⟩
  have hO1 := Lib.hid ((hO.out.nw g1).nw ((Nw.refl w1).alloc (.cells #[.int .i64 o.1, .int .i64 o.2.1, .int .i64 o.2.2.1, .int .i64 o.2.2.2.1, .int .i64 o.2.2.2.2.1, .int .i64 o.2.2.2.2.2] 37)))
  have hsz1 := g1.sz
  go_wp2_with fail
  refine (HC.out _ hO1.out).mono ?_
  rintro e w2 ⟨rfl, ⟨vt, vp, us, h2⟩, hB2, hK2⟩
  have hk := hK2 w1.heap.size (.cells #[.int .i64 o.1, .int .i64 o.2.1, .int .i64 o.2.2.1, .int .i64 o.2.2.2.1, .int .i64 o.2.2.2.2.1, .int .i64 o.2.2.2.2.2] 37 (0, 0)) (heap_alloc_last w1 _) (fun q => by have := Option.some.inj q; omega) (fun c fz q => by simp at q)
  have hlen := h2.len
  simp only [grow_len] at hlen
  have htu : t < us.length := by omega
  obtain ⟨gt, ct, hvt⟩ : ∃ g c, vt = .slice (some ⟨g, 0, none⟩) us.length c := by
    rcases own_form h2.rt with ⟨_, q⟩ | q
    · omega
    · exact q
  obtain ⟨q0, q1, q2, q3, q4, q5⟩ : w2.cell? ⟨w1.heap.size, 0, none⟩ = some (.int .i64 o.1) ∧ w2.cell? ⟨w1.heap.size, 1, none⟩ = some (.int .i64 o.2.1) ∧ w2.cell? ⟨w1.heap.size, 2, none⟩ = some (.int .i64 o.2.2.1) ∧ w2.cell? ⟨w1.heap.size, 3, none⟩ = some (.int .i64 o.2.2.2.1) ∧ w2.cell? ⟨w1.heap.size, 4, none⟩ = some (.int .i64 o.2.2.2.2.1) ∧ w2.cell? ⟨w1.heap.size, 5, none⟩ = some (.int .i64 o.2.2.2.2.2) :=
    ⟨heap_cell hk, heap_cell hk, heap_cell hk, heap_cell hk, heap_cell hk, heap_cell hk⟩
  have hl32 := getD_grow t (t + 1) s.th hall
  obtain ⟨v', w3, hrun, hO3, hB3, hc3, hf3, ⟨g', cap', rfl⟩, hK3, hc4⟩ := h2.addOp t htu o (by simp only; omega) hvt rfl
  have hrt := h2.rt
  rw [hvt] at hrt
  have c0 := h2.c0
  rw [hvt] at c0 hc4
  have ct' : w2.cell? ⟨gt, t, none⟩ = some (us.getD t nilV) := (World.ownsRow.cellAt hrt t (by omega)).trans (by simp [List.getD, htu])
  have hform : ∃ a c, us.getD t nilV = .slice a ((grow (t + 1) s.th).getD t []).length c := by
    rcases own_form (h2.ro t htu) with ⟨q, q'⟩ | ⟨g, cap, q⟩
    · exact ⟨none, 0, by rw [q]; simp only at q'; rw [q']⟩
    · exact ⟨_, _, q⟩
  obtain ⟨a, cc, hu⟩ := hform
  rw [hu] at ct' hrun hc3
  have hltB : B < w2.heap.size := h2.lt
  have hltg : gt < w2.heap.size := own_lt hrt rfl
  have hlt1 : w1.heap.size < w2.heap.size := heap_lt hk
  have d1 : decide ((t : Int) < (us.length : Int)) = true := by simpa using htu
  have H2 := Lib.hid h2
  have HR := Lib.hid hrun
  have H3 := Lib.hid (And.intro hO3 (And.intro hB3 hK3))
  have HB2 := Lib.hid (And.intro hB2 hK2)
  obtain ⟨N, hN⟩ : ∃ N, ((grow (t + 1) s.th).getD t []).length = N := ⟨_, rfl⟩
  rw [hN] at hl32 ct' hc3 HR H3
  have HN := Lib.hid hN
  clear h2 hrun hO3 hB3 hK3 hB2 hK2 hk hvt hrt hlen hN hu
  by_cases h32 : N < 32
  · have d0 : decide ((N : Int) < 32) = true := by simp; omega
    have hp : putO t o (grow (t + 1) s.th) = (grow (t + 1) s.th).set t ((grow (t + 1) s.th).getD t [] ++ [o]) := by unfold putO; rw [if_pos (by rw [HN.out]; exact h32)]
    have FF : Hid (Own (w3.setCell ⟨gt, t, none⟩ (.slice (some ⟨g', 0, none⟩) (N + 1) cap')) g0 B ⟨putO t o (grow (t + 1) s.th), s.pk, s.cp⟩ ∧ Below g0 w (w3.setCell ⟨gt, t, none⟩ (.slice (some ⟨g', 0, none⟩) (N + 1) cap')) ∧ Kept B w (w3.setCell ⟨gt, t, none⟩ (.slice (some ⟨g', 0, none⟩) (N + 1) cap'))) := by
      rw [hp]
      exact Lib.hid ⟨⟨_, _, _, H3.out.1⟩, (Below.trans (Below.mono (g1.alloc _) (by omega)) HB2.out.1).trans H3.out.2.1, ((Kept.nw (B := B) (g1.alloc _)).trans (Kept.ofT HB2.out.2)).trans H3.out.2.2⟩
    clear hp H3 HB2 HN H2 hO1 HC HE hall hs hbase hsz1 g1 hl32
    go_wp2
    go_region_law (refine step_append rfl (.tmp 39) (.tmp 41) 41 rfl _ _ _ _ rfl rfl HR.out ?_)
    all_goals
      go_wp2
      exact bodyPost_end (results_none rfl _ _ _) rfl ⟨rfl, FF.out⟩
  · have d0 : decide ((N : Int) < 32) = false := by simp; omega
    go_wp2
    have hp : putO t o (grow (t + 1) s.th) = grow (t + 1) s.th := by unfold putO; rw [if_neg (by rw [HN.out]; exact h32)]
    rw [hp]
    have hb0 := Below.trans (Below.mono (g1.alloc _) (by omega)) HB2.out.1
    have hk0 := (Kept.nw (B := B) (g1.alloc _)).trans (Kept.ofT HB2.out.2)
    first | exact bodyPost_end (results_none rfl _ _ _) rfl ⟨rfl, ⟨_, _, _, H2.out⟩, hb0, hk0⟩ | exact bodyPost_ret (results_none rfl _ _ _) rfl ⟨rfl, ⟨_, _, _, H2.out⟩, hb0, hk0⟩
end Go.Proofs.Ytmegaipedagcjaa
