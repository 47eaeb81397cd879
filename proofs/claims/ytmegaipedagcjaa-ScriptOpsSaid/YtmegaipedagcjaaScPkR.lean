
/- Read, with the capacity of its picks. -/
import Derived.Test.YtmegaipedagcjaaScW
namespace Go.Proofs.Ytmegaipedagcjaa
open Go.RowKit Go.Shelf
attribute [local go_sem] Oper.semAt_some

theorem own_cap {w : World} {g0 e size n c : Nat} {a : Option Addr} {xs : List Value} (h : w.ownsRow g0 e size (.slice a n c) n xs) : n ≤ c ∧ c ≤ maxLen := by
  rcases h.2 with ⟨h1, h2⟩ | ⟨g, cap, cur, h1, _, _, h2, h3, _⟩
  · simp only [Value.slice.injEq] at h1
    obtain ⟨_, _, rfl⟩ := h1
    exact ⟨by omega, by unfold maxLen; omega⟩
  · simp only [Value.slice.injEq] at h1
    obtain ⟨_, _, rfl⟩ := h1
    exact ⟨h2, h3⟩
def ReadC (w : World) (S : PS) (e : Ending) (W : World) : Prop := ∃ vt vp, e = .returned (scV vt vp S.cp) ∧ ScAt W vt vp S ∧ Nw w W ∧ ∃ a c, vp = .slice a S.pk.length c ∧ S.pk.length ≤ c ∧ c ≤ maxLen
set_option maxRecDepth 100000 in
set_option maxHeartbeats 1000000 in
theorem read_inC (n : Nat) (hn : 8 ≤ n) (l : List UInt8) (w : World) (hsm : l.length ≤ 1000000) :
    CallsIn Fence.wide n Try.prog 16 #[stV l] w (ReadC w (rd l)) := by
  have h1 : 1 ≤ n := by omega
  refine callsIn_of_wp_marks Try.func16 rfl trivial ?_ rfl
  simp only [Try.ntmps16, List.size_toArray, List.length_cons, List.length_nil, Nat.reduceAdd, Nat.reduceSub, Array.replicate_succ, Array.replicate_zero, List.push_toArray, List.append_toArray, List.nil_append, List.cons_append]
  gi_wp2_with fail
  refine ⟨trivial, (callsIn_wide.2 (caps_any _)).mono ?_⟩
  rintro e w1 ⟨rfl, g1⟩
  have hw1 : Nw w w1 := ((Nw.refl w).alloc _).trans g1
  have hr1 : w1.heap[w.heap.size]? = some (.cells #[nilV, nilV, .int .i64 0, .int .i64 0, .int .i64 0, .int .i64 0] 28 (0, 0)) := (g1.block _ (by simp)).trans (heap_alloc_last w _)
  have hsz1 : w.heap.size < w1.heap.size := heap_lt hr1
  have hS := own_start w w1 (4, 32, 64, 2) hw1.sz
  have hC := createThreads_any w.heap.size w1.heap.size 1 ⟨[], [], (4, 32, 64, 2)⟩ _ (by omega) (by simp) hS
  have HC := Lib.hid hC
  clear hS hC
  gi_wp2_with fail
  refine ⟨trivial, (callsIn_wide.2 HC.out).mono ?_⟩
  rintro e w3 ⟨rfl, hO3, hB3, hK3⟩
  have hI3 : RdI w w1.heap.size [] w3 := ⟨hO3, Below.trans (Below.mono (hw1.alloc _) (Nat.le_refl _)) hB3, by omega, hK3 _ _ ((Below.heap_alloc _ _ _ hsz1).trans hr1) (fun e => by have := Option.some.inj e; omega) (fun c fz e => by simp at e)⟩
  have HI3 := Lib.hid hI3
  have hsz3 : w1.heap.size < w3.heap.size := by obtain ⟨_, _, _, h⟩ := hO3; exact h.lt
  clear hO3 hB3 hK3 hI3 HC
  gi_wp2_with fail
  refine ⟨trivial, (callsIn_wide.2 (each_any l w3)).mono ?_⟩
  rintro e w4' ⟨rfl, rfl⟩
  gi_wp2
  obtain ⟨w4, hw4⟩ : ∃ w4, w3.alloc (.cells #[stV l] 9) = w4 := ⟨_, rfl⟩
  rw [hw4]
  have hsz4 : w4.heap.size = w3.heap.size + 1 := by rw [← hw4]; simp
  have HI4 : Hid (RdI w w1.heap.size [] w4) := Lib.hid (by rw [← hw4]; exact HI3.out.nw ((Nw.refl w3).alloc _))
  have hsq := each1_in (n - 1) (by omega) w3.heap.size l w4 (by rw [← hw4]; simp [go_sem]) hsm
  clear hw4 HI3
  refine rs_law rfl h1 (gf := 37) (lb := #[.pointer (some ⟨w3.heap.size, 0, none⟩)]) rfl trivial e_each1 hsq rfl (RdI w w1.heap.size) (fun _ _ _ => False)
    (fun pre A lp o o' h hl h1 h2 => h.put o' (by omega) h1 h2) (fun _ _ _ _ _ _ h _ _ _ => h) (fun W g => HI4.out.nw g)
    (fun x => { tmps := #[stV l, undef, .pointer (some ⟨w.heap.size, 0, none⟩), .pointer (some ⟨w1.heap.size, 0, none⟩), stV x, .agg #[.int .i64 4, .int .i64 32, .int .i64 64, .int .i64 2], .agg #[.slice none 0 0, .slice none 0 0, .int .i64 4, .int .i64 32, .int .i64 64, .int .i64 2], .tuple #[], stV l, .func (.func 37) #[] #[.pointer (some ⟨w3.heap.size, 0, none⟩)], stV x, undef, undef, undef], defers := [] }) ?assign ?body ?done ?stop
  case assign =>
    intro lp x A K hK
    gi_wp2
    exact hK
  case body =>
    intro lp pre x A hi hcells hpre
    have hx : x ∈ chunks l := hpre.subset (by simp)
    obtain ⟨e0, e1, e2, e3, e4, e5, e6, e7, rfl⟩ := eight x (chunks_len l x hx)
    have HA := Lib.hid (add_any w.heap.size w1.heap.size _ e0 e1 e2 e3 e4 e5 e6 e7 A (fold_ok pre ps0 okS_zero) hi.1)
    have HI := Lib.hid hi
    have HN := Lib.hid hcells
    clear hi hcells hpre hx hsq
    gi_wp2_with fail
    refine ⟨trivial, fun h => by simp [Fence.wide] at h, ((callsIn_wide.2 HA.out).inRound lp).mono ?_⟩
    rintro e A' ⟨rfl, k⟩
    have HF : Hid (KpD w4.heap.size A A' ∧ RdI w w1.heap.size (pre ++ [[e0, e1, e2, e3, e4, e5, e6, e7]]) A') := by
      refine Lib.hid ⟨fun i hi => ?_, HI.out.step k⟩
      obtain ⟨o, h1, h2⟩ := HN.out i hi
      have key : ∀ c t fr, o ≠ .cells c t fr := fun c t fr e => by subst e; cases h2
      rw [h1]
      refine k.2.2 i o h1 (fun e => ?_) (fun _ _ => key _ _ _) (fun _ _ => key _ _ _) (fun _ _ => key _ _ _)
      obtain ⟨_, _, _, hO⟩ := HI.out.1
      have := hO.box
      rw [← e, h1] at this
      exact key _ _ _ (Option.some.inj this)
    clear k HI HN HA
    gi_wp2
    exact HF.out
  case done =>
    intro D W hD hi hK
    obtain ⟨⟨vt, vp, us, hO⟩, hB, hne, hr⟩ := hi
    have hc0 := hO.c0
    have hc1 := hO.c1
    have hc2 : W.cell? ⟨w1.heap.size, 2, none⟩ = some (.int .i64 (rd l).cp.1) := heap_cell hO.box
    have hc3 : W.cell? ⟨w1.heap.size, 3, none⟩ = some (.int .i64 (rd l).cp.2.1) := heap_cell hO.box
    have hc4 : W.cell? ⟨w1.heap.size, 4, none⟩ = some (.int .i64 (rd l).cp.2.2.1) := heap_cell hO.box
    have hc5 : W.cell? ⟨w1.heap.size, 5, none⟩ = some (.int .i64 (rd l).cp.2.2.2) := heap_cell hO.box
    have hlt := hO.lt
    have hltr := heap_lt hr
    have r0 : W.cell? ⟨w.heap.size, 0, none⟩ = some nilV := heap_cell hr
    have r1 : W.cell? ⟨w.heap.size, 1, none⟩ = some nilV := heap_cell hr
    have r2 : W.cell? ⟨w.heap.size, 2, none⟩ = some (.int .i64 0) := heap_cell hr
    have r3 : W.cell? ⟨w.heap.size, 3, none⟩ = some (.int .i64 0) := heap_cell hr
    have r4 : W.cell? ⟨w.heap.size, 4, none⟩ = some (.int .i64 0) := heap_cell hr
    have r5 : W.cell? ⟨w.heap.size, 5, none⟩ = some (.int .i64 0) := heap_cell hr
    have fr : ∀ j, W.frozen? ⟨w.heap.size, j, none⟩ = false := fun j => heap_fz hr
    obtain ⟨at', ct, rfl⟩ : ∃ a c, vt = .slice a us.length c := by
      rcases own_form hO.rt with ⟨rfl, q⟩ | ⟨g, cap, rfl⟩
      · exact ⟨none, 0, by rw [q]⟩
      · exact ⟨_, _, rfl⟩
    obtain ⟨ap, cp', rfl⟩ : ∃ a c, vp = .slice a (rd l).pk.length c := by
      rcases own_form hO.rp with ⟨rfl, q⟩ | ⟨g, cap, rfl⟩
      · exact ⟨none, 0, by rw [← q]; rfl⟩
      · exact ⟨_, _, rfl⟩
    have hcap := Lib.hid (own_cap hO.rp)
    have HT := Lib.hid (read_end (.slice at' us.length ct) (.slice ap (rd l).pk.length cp') (.int .i64 (rd l).cp.1) (.int .i64 (rd l).cp.2.1) (.int .i64 (rd l).cp.2.2.1) (.int .i64 (rd l).cp.2.2.2) hO hB hne hr (by omega) hK)
    clear hO hB hr hK hsq HI4
    have HQ : Hid (∀ W', ScAt W' (.slice at' us.length ct) (.slice ap (rd l).pk.length cp') (rd l) → Nw w W' → ReadC w (rd l) (.returned (.agg #[.slice at' us.length ct, .slice ap (rd l).pk.length cp', .int .i64 (rd l).cp.1, .int .i64 (rd l).cp.2.1, .int .i64 (rd l).cp.2.2.1, .int .i64 (rd l).cp.2.2.2])) W') := Lib.hid fun W' a b => ⟨_, _, rfl, a, b, _, _, rfl, hcap.out.1, hcap.out.2⟩
    generalize (rd l).cp.1 = q1 at *
    generalize (rd l).cp.2.1 = q2 at *
    generalize (rd l).cp.2.2.1 = q3 at *
    generalize (rd l).cp.2.2.2 = q4 at *
    gi_wp2
    obtain ⟨t1, t2, t3, t4⟩ := HT.out
    refine ⟨by simp, .inl ⟨_, _, rfl, run_takeDeferred t3, ?_⟩⟩
    have p0 := t4 0
    have p1 := t4 1
    have p2 := t4 2
    have p3 := t4 3
    have p4 := t4 4
    have p5 := t4 5
    clear t4
    unfold fin6 at p0 p1 p2 p3 p4 p5
    simp at p0 p1 p2 p3 p4 p5
    exact ⟨.agg #[.slice at' us.length ct, .slice ap (rd l).pk.length cp', .int .i64 q1, .int .i64 q2, .int .i64 q3, .int .i64 q4], by simp [results, Try.results16, go_sem, p0, p1, p2, p3, p4, p5], HQ.out _ t1 t2⟩
  case stop =>
    intro D cd pre W _ _ h _
    exact h.elim
theorem readC_as (l : List UInt8) (S : PS) (h : rd l = S) (hl : l.length ≤ 1000000) (z : World) : Calls Try.prog 16 #[stV l] z (ReadC z S) := by
  subst h
  exact callsIn_wide.1 (read_inC 9 (by omega) l z hl)
theorem pks_cut {w : World} {a : Option Addr} {n c : Nat} {l : List (Int × Int)} {x : Int × Int} (h : PksAt w (.slice a (n + 1) c) (l ++ [x])) (hl : l.length = n) :
    PksAt w (.slice a n c) l ∧ ∃ b o, a = some ⟨b, o, none⟩ ∧ w.cell? ⟨b, o + n * 2, none⟩ = some (.int .i64 x.1) ∧ w.cell? ⟨b, o + n * 2 + 1, none⟩ = some (.int .i64 x.2) := by
  obtain ⟨a', c', e, h⟩ := h
  simp only [Value.slice.injEq] at e
  obtain ⟨rfl, _, rfl⟩ := e
  rcases h with h | ⟨b, o, rfl, hc⟩
  · simp at h
  · refine ⟨⟨_, c, by rw [hl], .inr ⟨b, o, rfl, hc.1, fun k hk => ?_⟩⟩, b, o, rfl, ?_⟩
    · have := hc.2 k (by simp; omega)
      rw [List.getElem_append_left hk] at this
      exact this
    · have := hc.2 n (by simp; omega)
      rw [List.getElem_append_right (by omega)] at this
      simpa using this
/-- The string of eight bytes that the law writes. -/
theorem conv8 (z : World) (b : Nat) (hb : z.heap.size = b) (b0 b1 b2 b3 b4 b5 b6 b7 : UInt8) :
    (convert 55 9 (.slice (some ⟨b, 0, none⟩) 8 8)).run Try.prog (z.alloc (.cells #[.int .u8 b0.toNat, .int .u8 b1.toNat, .int .u8 b2.toNat, .int .u8 b3.toNat, .int .u8 b4.toNat, .int .u8 b5.toNat, .int .u8 b6.toNat, .int .u8 b7.toNat] 5)) =
      .ok (stV [b0, b1, b2, b3, b4, b5, b6, b7]) (z.alloc (.cells #[.int .u8 b0.toNat, .int .u8 b1.toNat, .int .u8 b2.toNat, .int .u8 b3.toNat, .int .u8 b4.toNat, .int .u8 b5.toNat, .int .u8 b6.toNat, .int .u8 b7.toNat] 5)) := by
  subst hb
  exact run_convert_bytes_back (P := Try.prog) _ 55 9 5 ⟨z.heap.size, 0, none⟩ 8 [b0, b1, b2, b3, b4, b5, b6, b7] Try.underlying55 Try.underlying5 Try.underlying9 (fun j hj => by
    simp at hj
    have : j = 0 ∨ j = 1 ∨ j = 2 ∨ j = 3 ∨ j = 4 ∨ j = 5 ∨ j = 6 ∨ j = 7 := by omega
    rw [Addr.add_lit, Nat.zero_add]
    rcases this with rfl | rfl | rfl | rfl | rfl | rfl | rfl | rfl <;> simp [go_sem])
end Go.Proofs.Ytmegaipedagcjaa
