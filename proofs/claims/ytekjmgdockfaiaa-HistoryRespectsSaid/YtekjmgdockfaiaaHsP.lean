
/- HistoryRespects: plain facts; the order that repeats one. -/
import Derived.Test.YtekjmgdockfaiaaHsO
import Derived.ArgAppend
namespace Go.Proofs.Ytekjmgdockfaiaa
open Go.RowKit
set_option linter.unusedVariables false      -- a contract need not use every name

def rng (n : Nat) : List Int := (List.range n).map fun i : Nat => (i : Int)
theorem rng_len (n : Nat) : (rng n).length = n := by simp [rng]
theorem rng_at (n i : Nat) (h : i < (rng n).length) : (rng n)[i] = (i : Int) := by simp [rng]
theorem rng_snoc (n : Nat) : rng (n + 1) = rng n ++ [(n : Int)] := by simp [rng, List.range_succ]
theorem permG_nat (n : Nat) : ∀ (l S : List Nat), l.Nodup → (∀ i ∈ l, i < n ∧ S.contains i = false) → permG n (l.map fun i : Nat => (i : Int)) S = true
  | [], _, _, _ => rfl
  | x :: r, S, hn, h => by
    obtain ⟨h1, h2⟩ := List.nodup_cons.1 hn
    obtain ⟨q1, q2⟩ := h x (by simp)
    rw [List.map_cons, permG_cons, if_neg (by omega), Int.toNat_natCast, if_neg (by rw [q2]; simp)]
    refine permG_nat n r (x :: S) h2 fun i hi => ⟨(h i (by simp [hi])).1, ?_⟩
    rw [List.contains_cons, (h i (by simp [hi])).2, Bool.or_false]
    simp
    rintro rfl
    exact h1 hi
theorem permG_nodup (n : Nat) : ∀ (l : List Int) (S : List Nat), permG n l S = true → l.Nodup ∧ ∀ i ∈ l, S.contains i.toNat = false
  | [], _, _ => ⟨List.nodup_nil, by simp⟩
  | x :: r, S, h => by
    rw [permG_cons] at h
    by_cases q : x < 0 ∨ (n : Int) ≤ x
    · rw [if_pos q] at h; cases h
    · rw [if_neg q] at h
      by_cases q2 : S.contains x.toNat = true
      · rw [if_pos q2] at h; cases h
      · rw [if_neg q2] at h
        obtain ⟨h1, h2⟩ := permG_nodup n r _ h
        refine ⟨List.nodup_cons.2 ⟨fun hx => ?_, h1⟩, fun i hi => ?_⟩
        · have := h2 x hx
          rw [List.contains_cons] at this
          simp at this
        · rcases List.mem_cons.1 hi with rfl | hi
          · simpa using q2
          · have := h2 i hi
            rw [List.contains_cons, Bool.or_eq_false_iff] at this
            exact this.2
/-- The order of beginnings respects. -/
theorem kp_rise (S : List Sp) (hr : ∀ i j (hi : i < S.length) (hj : j < S.length), i < j → (S[i]).fr < (S[j]).fr) (ht : ∀ s ∈ S, s.to < 0 ∨ s.fr < s.to) : ∀ (l : List Nat) (last : Sp), l.Pairwise (· < ·) → (∀ i ∈ l, ∃ h : i < S.length, last.fr ≤ (S[i]).fr) → kp S last (l.map fun i : Nat => (i : Int)) = true
  | [], _, _, _ => rfl
  | x :: r, last, hp, h => by
    obtain ⟨h1, h2⟩ := List.pairwise_cons.1 hp
    obtain ⟨hx, hl⟩ := h x (by simp)
    have hg : S.getD x z0 = S[x] := by simp [List.getD, hx]
    rw [List.map_cons, kp_cons, Int.toNat_natCast, hg]
    have hb : befS S[x] last = false := by
      have := ht _ (List.getElem_mem hx)
      unfold befS
      simp
      omega
    rw [if_neg (by rw [hb]; simp)]
    refine kp_rise S hr ht r _ h2 fun i hi => ?_
    obtain ⟨hi', hli⟩ := h i (by simp [hi])
    refine ⟨hi', ?_⟩
    have := hr x i hx hi' (h1 i hi)
    by_cases q : last.fr < (S[x]).fr
    · rw [if_pos q]; omega
    · rw [if_neg q]; exact hli
structure Nice (S : List Sp) : Prop where
  rise : ∀ i j (hi : i < S.length) (hj : j < S.length), i < j → (S[i]).fr < (S[j]).fr
  to : ∀ s ∈ S, s.to < 0 ∨ s.fr < s.to
  fr : ∀ s ∈ S, 0 ≤ s.fr
theorem nice_of (l : List Ev) : Nice (trk l 0 []).1 := by
  obtain ⟨k, _, g⟩ := Good.part l 0 [] Good.nil
  exact ⟨fun i j hi hj hij => List.pairwise_iff_getElem.1 g.rise i j hi hj hij, fun s hs => by have := g.to s hs; omega, fun s hs => (g.fr s hs).1⟩
theorem resp_rng {S : List Sp} (h : Nice S) : resp S (rng S.length) = true := by
  unfold resp permL
  rw [rng_len]
  rw [show decide (S.length = S.length) = true by simp, Bool.true_and, Bool.and_eq_true]
  refine ⟨permG_nat _ _ [] List.nodup_range fun i hi => ⟨List.mem_range.1 hi, rfl⟩, kp_rise S h.rise h.to _ _ List.pairwise_lt_range fun i hi => ?_⟩
  have hi' := List.mem_range.1 hi
  exact ⟨hi', by have := h.fr _ (List.getElem_mem hi'); exact this⟩
theorem resp_twice (S : List Sp) (h : 2 ≤ S.length) : resp S ((rng S.length).drop 1 ++ [1]) = false := by
  unfold resp
  rw [Bool.and_eq_false_iff]
  left
  unfold permL
  rw [Bool.and_eq_false_iff]
  right
  rw [Bool.eq_false_iff]
  intro q
  have := (permG_nodup _ _ _ q).1
  rw [List.nodup_append] at this
  have h1 : (1 : Int) ∈ (rng S.length).drop 1 := by
    have hl : 0 < ((rng S.length).drop 1).length := by rw [List.length_drop, rng_len]; omega
    have e : ((rng S.length).drop 1)[0] = 1 := by rw [List.getElem_drop, rng_at]; rfl
    rw [← e]; exact List.getElem_mem hl
  exact this.2.2 1 h1 1 (by simp) rfl
theorem bef_not {a b : Sp} (ha : a.to < 0 ∨ a.fr < a.to) (hb : b.to < 0 ∨ b.fr < b.to) (h : befS a b = true) : befS b a = false := by
  unfold befS at h ⊢
  simp at h ⊢
  omega
theorem bef_self {a : Sp} (ha : a.to < 0 ∨ a.fr < a.to) : befS a a = false := by
  unfold befS
  simp
  omega
theorem resp_01 {a b : Sp} (ha : 0 ≤ a.fr) : resp [a, b] [0, 1] = !befS b a := by
  have h0 : befS a z0 = false := by unfold befS z0; simp
  have e : resp [a, b] [0, 1] = kp [a, b] z0 [0, 1] := rfl
  rw [e, kp_cons, kp_cons]
  show (if befS a z0 = true then false else if befS b (if z0.fr < a.fr then a else z0) = true then false else true) = _
  rw [if_neg (by rw [h0]; simp)]
  by_cases q : z0.fr < a.fr
  · rw [if_pos q]; cases befS b a <;> rfl
  · rw [if_neg q]
    have h1 : befS b z0 = false := by unfold befS z0; simp
    have h2 : befS b a = false := by
      unfold befS
      simp [z0] at q ⊢
      omega
    rw [h1, h2]; rfl
theorem resp_10 {a b : Sp} (hb : 0 ≤ b.fr) : resp [a, b] [1, 0] = !befS a b := by
  have h0 : befS b z0 = false := by unfold befS z0; simp
  have e : resp [a, b] [1, 0] = kp [a, b] z0 [1, 0] := rfl
  rw [e, kp_cons, kp_cons]
  show (if befS b z0 = true then false else if befS a (if z0.fr < b.fr then b else z0) = true then false else true) = _
  rw [if_neg (by rw [h0]; simp)]
  by_cases q : z0.fr < b.fr
  · rw [if_pos q]; cases befS a b <;> rfl
  · rw [if_neg q]
    have h1 : befS a z0 = false := by unfold befS z0; simp
    have h2 : befS a b = false := by
      unfold befS
      simp [z0] at q ⊢
      omega
    rw [h1, h2]; rfl
theorem cell_int (w : World) (x : Int) : (w.alloc (.cells #[.int .i64 x] 3)).cell? ⟨w.heap.size, 0, none⟩ = some (.int .i64 x) := heap_cell (alloc_at w #[.int .i64 x] 3)
/-- append(order[1:], 1): what comes of it. -/
theorem order_app {w : World} {g cap n : Nat} (h : IS w (.slice (some ⟨g, 0, none⟩) n cap) (rng n)) (h2 : 2 ≤ n) (hn : n ≤ 900) (hcap : n ≤ cap) :
    ∃ v' w1, (Builtin.append_ #[41, 41] 41 #[.slice (some ⟨g, 1, none⟩) (n - 1) (cap - 1), .slice (some ⟨w.heap.size, 0, none⟩) 1 1]).run Try.prog (w.alloc (.cells #[.int .i64 1] 3)) = .ok v' w1 ∧
      IntsAt w1 v' ((rng n).drop 1 ++ [1]) ∧ w.grownBy w1 (some g) ∧ (∃ a c, v' = .slice a n c) := by
  obtain ⟨i0, hi, hz0, hz1, hz2⟩ := info_parts infoI
  have hlen : ((rng n).drop 1 ++ [(1 : Int)]).length = n := by rw [List.length_append, List.length_drop, rng_len]; simp; omega
  have hnw : Nw w (w.alloc (.cells #[.int .i64 1] 3)) := (Nw.refl w).alloc _
  have hA := h.nw hnw
  have hgl := h.glt
  have hc : ∀ i, i < n → (w.alloc (.cells #[.int .i64 1] 3)).cell? ⟨g, i, none⟩ = some (.int .i64 (i : Int)) := fun i hi => by
    rw [hA.cell i (by rw [rng_len]; exact hi)]
    simp [rng, hi]
  have hnews : ∀ j u, [Value.int .i64 1][j]? = some u → (w.alloc (.cells #[.int .i64 1] 3)).cell? ((⟨w.heap.size, 0, none⟩ : Addr).add j) = some u := by
    intro j u hu
    match j, hu with
    | 0, hu => simp at hu; subst hu; exact cell_int w 1
  by_cases hroom : n < cap
  · have hcell : ((w.alloc (.cells #[.int .i64 1] 3)).cell? ⟨g, n, none⟩).isSome = true := by
      rcases hA.2 with ⟨q, _⟩ | ⟨g', cap', cur, q, hb, hg, h1, h2, h3, h4⟩
      · simp at q
      · simp only [Value.slice.injEq, Option.some.injEq, Addr.mk.injEq, and_true, true_and] at q
        obtain ⟨rfl, _, rfl⟩ := q
        rw [heap_cell hg, Array.getElem?_eq_getElem (by omega)]; rfl
    have hr := run_append_room_cells (P := Try.prog) (w.alloc (.cells #[.int .i64 1] 3)) 41 41 3 i0 Try.underlying41 hi g 1 (n - 1) (cap - 1) ⟨w.heap.size, 0, none⟩ 1 1 [.int .i64 1] (by rw [hz1]; rfl) hnews (by simp [Value.oneCell']) (by omega)
      (by intro j hj; simp at hj; subst hj; rw [hz1, show 1 + (n - 1) * 1 + 0 = n by omega]; exact hcell) (by intro j hj; exact hA.frozen _)
    rw [hz1, show 1 + (n - 1) * 1 = n by omega, show n - 1 + 1 = n by omega] at hr
    have hset : (w.alloc (.cells #[.int .i64 1] 3)).setCells g n [.int .i64 1] = (w.alloc (.cells #[.int .i64 1] 3)).setCell ⟨g, n, none⟩ (.int .i64 1) := rfl
    rw [hset] at hr
    refine ⟨_, _, hr, ⟨_, cap - 1, by rw [hlen], .inr ⟨g, 1, rfl, by first | (simp [World.setCell]; done) | (simp [World.setCell]; omega), fun i hi' => ?_⟩⟩, ?_, _, _, rfl⟩
    · rw [hlen] at hi'
      by_cases q : i < n - 1
      · rw [World.cell?_setCell_other _ _ _ _ (by first | (simp; done) | (simp; omega)), hc (1 + i) (by omega)]
        rw [List.getElem_append_left (by rw [List.length_drop, rng_len]; exact q), List.getElem_drop, rng_at]
      · have e : i = n - 1 := by omega
        subst e
        rw [show 1 + (n - 1) = n by omega]
        obtain ⟨u, hu⟩ := Option.isSome_iff_exists.1 hcell
        rw [World.cell?_setCell_same _ _ _ hu, List.getElem_append_right (by rw [List.length_drop, rng_len]; exact Nat.le_refl _)]
        simp
    · refine ⟨rfl, rfl, rfl, by simp [World.setCell], fun k hk hne => ?_⟩
      rw [Below.heap_setCell _ _ _ _ (fun q => hne (by rw [q]))]
      exact hnw.block k hk
  · have hlo : ((rng n).drop 1).map (Value.int .i64) = ((rng n).drop 1).map (Value.int .i64) := rfl
    obtain ⟨v', w1, hr, ho, hg⟩ := run_append_arg_grows (P := Try.prog) (w.alloc (.cells #[.int .i64 1] 3)) 41 41 3 i0 _ 1 8 Try.underlying41 hi hz0 hz1 hz2 rfl (by decide) ⟨g, 1, none⟩ (n - 1) (cap - 1) (((rng n).drop 1).map (Value.int .i64))
      (by rw [List.length_map, List.length_drop, rng_len]; omega) (by
        intro j u hu
        rw [List.getElem?_map] at hu
        obtain ⟨x, hx, rfl⟩ := Option.map_eq_some_iff.1 hu
        obtain ⟨hj, hx⟩ := List.getElem?_eq_some_iff.1 hx
        rw [List.getElem_drop, rng_at] at hx
        subst hx
        rw [List.length_drop, rng_len] at hj
        rw [Addr.add_lit]
        exact hc (1 + j) (by omega))
      ⟨w.heap.size, 0, none⟩ 1 1 [.int .i64 1] rfl hnews (by omega) (by unfold maxLen; omega) (by omega)
    have hI : w1.ownsRow (w.alloc (.cells #[.int .i64 1] 3)).heap.size 3 1 v' ((rng n).drop 1 ++ [(1 : Int)]).length (((rng n).drop 1 ++ [(1 : Int)]).map (Value.int .i64)) := by
      rw [hlen, List.map_append]
      rw [show n - 1 + 1 = n by omega] at ho
      exact ho
    have hI0 : IS w1 v' ((rng n).drop 1 ++ [(1 : Int)]) := by
      refine ⟨hI.1, ?_⟩
      rcases hI.2 with q | ⟨g', cap', cur, q1, q2, q3⟩
      · exact .inl q
      · exact .inr ⟨g', cap', cur, q1, Nat.zero_le _, q3⟩
    refine ⟨v', w1, hr, hI0.at, ?_, ?_⟩
    · refine ⟨hg.os, hg.tape, hg.output, Nat.le_trans hnw.sz hg.size, fun k hk hne => (hg.block k (Nat.lt_of_lt_of_le hk hnw.sz) (by simp)).trans (hnw.block k hk)⟩
    · obtain ⟨a, c, q, _⟩ := hI0.at
      exact ⟨a, c, by rw [q, hlen]⟩
end Go.Proofs.Ytekjmgdockfaiaa
