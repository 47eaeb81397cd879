
/- QueueScans: the walk. -/
import Derived.Test.YtmciiobncfchlaaQvU
import Derived.Test.YtmciiobncfchlaaQuU
import Derived.Test.YtmciiobncfchlaaQuO
namespace Go.Proofs.Ytmciiobncfchlaa
open Go.RowKit
set_option linter.unusedVariables false

abbrev Sl := Option Addr × Nat × Nat
def slV (x : Sl) : Value := .slice x.1 x.2.1 x.2.2
def hrow (t r W : Int) (x : Sl) : List Value := [.int .i64 t, .int .i64 r, slV x, .int .i64 W]
theorem elemHd (t r W : Int) : Elem Try.prog 53 27 4 48 (hrow t r W) where
  und := Try.underlying53
  inf := by
    have h : (Try.prog.info? 27).map (fun i => (i.zero, i.size, i.bytes)) = some (some (.agg #[.int .i64 0, .int .i64 0, .slice none 0 0, .int .i64 0]), 4, 48) := by kernel_rfl
    cases e : Try.prog.info? 27 with
    | none => rw [e] at h; cases h
    | some i =>
      rw [e] at h
      simp only [Option.map_some, Option.some.injEq, Prod.mk.injEq] at h
      exact ⟨i, _, rfl, h.1, h.2.1, h.2.2, rfl⟩
  pos := by decide
  byt := by decide
  len := fun _ => rfl
  one := fun a u hu => by
    simp only [hrow, List.mem_cons, List.not_mem_nil, or_false] at hu
    rcases hu with rfl | rfl | rfl | rfl <;> rfl
theorem r9same_eq (t r W : Int) (v v' : Value) (q : List Rq) (w : World) (hl : q.length ≤ 1000) (h : RqAt w v q) (h' : RqAt w v' q) :
    Calls Try.prog 29 #[hdV t r v W, hdV t r v' W] w fun e w' => e = .returned (.bool true) ∧ Nw w w' := by
  unfold hdV
  obtain ⟨a, c, rfl, hh⟩ := h
  obtain ⟨a', c', rfl, hh'⟩ := h'
  by_cases hq : q = []
  · subst hq
    clear hh hh'
    go_enter Try.func29, Try.ntmps29
    go_wp2
    refine wp_loop_rounds 1 ?_
    repeat (rw [rounds_succ]; go_wp2)
    go_ret
    exact ⟨rfl, ((Nw.refl _).alloc _).alloc _⟩
  · rcases hh with ⟨e, _⟩ | ⟨b, o, rfl, hc⟩
    · exact absurd e hq
    rcases hh' with ⟨e, _⟩ | ⟨b', o', rfl, hc'⟩
    · exact absurd e hq
    refine (r9same_rows t r W t r W b o c b' o' c' q q w rfl rfl rfl rfl hl hc hc').mono ?_
    rintro e w' ⟨f, rfl, g, hf⟩
    exact ⟨by rw [hf.2 rfl], g⟩
theorem rd_sl {w : World} {v : Value} {q : List Rq} (h : RqAt w v q) : ∃ x : Sl, v = slV x ∧ x.2.1 = q.length := by
  obtain ⟨a, c, rfl⟩ := h.form
  exact ⟨(a, q.length, c), rfl, rfl⟩
/-- What is known of each head of the list. -/
def HdOk (w : World) (W : Int) (x : Sl) : Prop := ∃ q : List Rq, RqAt w (slV x) q ∧ Ok W q ∧ q.length ≤ 12
theorem lv_len (id : Int) (q : List Rq) : (lvQ id q).length ≤ q.length := List.length_filter_le _ _
set_option maxRecDepth 100000 in
set_option maxHeartbeats 16000000 in
theorem law_any (t r W : Int) (vq : Value) (q : List Rq) (id : Int) (w : World) (h : RqAt w vq q) (hcap : capOk vq) :
    Calls Try.prog 4 #[hdV t r vq W, .int .i64 id] w fun e w' => e = .returned (.bool true) ∧ Below w.heap.size w w' := by
  have HLv := Lib.hid lives_ok
  obtain ⟨a, c, rfl⟩ := h.form
  have HAt := Lib.hid (And.intro h hcap)
  clear h hcap
  unfold hdV
  have hb := HB.made w t r (.slice a q.length c) W
  have hN : Nw w (w.alloc (.cells #[.int .i64 t, .int .i64 r, .slice a q.length c, .int .i64 W] 27)) := (Nw.refl w).alloc _
  obtain ⟨n, hn⟩ : ∃ n, q.length = n := ⟨_, rfl⟩
  rw [hn] at hb hN
  rw [hn]
  have HN0 := Lib.hid hn
  clear hn
  obtain ⟨u1, hu1⟩ : ∃ u1, w.alloc (.cells #[.int .i64 t, .int .i64 r, .slice a n c, .int .i64 W] 27) = u1 := ⟨_, rfl⟩
  rw [hu1] at hb hN
  have HU1 := Lib.hid hu1
  have H1 := Lib.hid (And.intro hb hN)
  clear hb hN hu1
  go_enter Try.func4, Try.ntmps4
  go_wp2_with fail
  rw [HU1.out]
  go_at_call 7
  refine (HLv.out _).mono ?_
  rintro e u2 ⟨rfl, g2⟩
  have hb2 := H1.out.1.nw g2
  have H2 := Lib.hid (And.intro hb2 (H1.out.2.trans g2))
  have hb3 : (u2.alloc (.cells #[.int .i64 t, .int .i64 r, .slice a n c, .int .i64 W] 27)).heap[u2.heap.size]? = some (.cells #[.int .i64 t, .int .i64 r, .slice a n c, .int .i64 W] 27) := allocAt u2 _
  obtain ⟨u3, hu3⟩ : ∃ u3, u2.alloc (.cells #[.int .i64 t, .int .i64 r, .slice a n c, .int .i64 W] 27) = u3 := ⟨_, rfl⟩
  have g3 : Nw u2 u3 := by rw [← hu3]; exact (Nw.refl u2).alloc _
  rw [hu3] at hb3
  have HLt := Lib.hid (kLight1 u2.heap.size t r W a n c u3 hb3)
  have HU3 := Lib.hid hu3
  have H3 := Lib.hid (And.intro (hb2.nw g3) (H2.out.2.trans g3))
  have c0 := hcell (j := 0) hb2
  have c1 := hcell (j := 1) hb2
  have c2 := hcell (j := 2) hb2
  have c3 := hcell (j := 3) hb2
  have hl := hlt hb2
  clear hb2 g2 hb3 hu3 g3
  go_wp2_with fail
  rw [HU3.out]
  go_at_call 24
  refine HLt.out.mono ?_
  rintro e u4 ⟨rfl, g4⟩
  have H4 := Lib.hid (And.intro (H3.out.1.nw g4) (H3.out.2.trans g4))
  clear c0 c1 c2 c3 hl g4 HLt
  have c0 := hcell (j := 0) H4.out.1
  have c1 := hcell (j := 1) H4.out.1
  have c2 := hcell (j := 2) H4.out.1
  have c3 := hcell (j := 3) H4.out.1
  have hl := hlt H4.out.1
  by_cases h12 : n ≤ 12
  rotate_left
  · rw [show decide (n ≤ 12) = false by simpa using h12]
    clear h12
    go_wp2
    go_ret
    exact ⟨rfl, H4.out.2⟩
  rw [show decide (n ≤ 12) = true by simpa using h12]
  have hql : q.length ≤ 12 := by rw [HN0.out]; exact h12
  have HCk := Lib.hid (r9check t r W (.slice a n c) q u4 (by omega) (by have := HAt.out.1.nw H4.out.2; rwa [HN0.out] at this))
  unfold hdV at HCk
  have HQL := Lib.hid hql
  clear h12 hql
  go_wp2_with fail
  go_at_call 25
  refine HCk.out.mono ?_
  rintro e u5 ⟨rfl, g5⟩
  have H5 := Lib.hid (And.intro (H4.out.1.nw g5) (H4.out.2.trans g5))
  clear c0 c1 c2 c3 hl g5 HCk
  have c0 := hcell (j := 0) H5.out.1
  have c1 := hcell (j := 1) H5.out.1
  have c2 := hcell (j := 2) H5.out.1
  have c3 := hcell (j := 3) H5.out.1
  have hl := hlt H5.out.1
  by_cases hok : okQ W q = true
  rotate_left
  · rw [if_neg hok]
    clear hok
    go_wp2
    go_ret
    exact ⟨rfl, H5.out.2⟩
  rw [if_pos hok]
  have HOk := Lib.hid ((okQ_iff W q).1 hok)
  clear hok
  have HAt5 := Lib.hid (show RqAt u5 (.slice a n c) q by have := HAt.out.1.nw H5.out.2; rwa [HN0.out] at this)
  have hcp : capOk (.slice a n c) := by have := HAt.out.2; rwa [HN0.out] at this
  have HCap := Lib.hid hcp
  clear hcp
  have HLe := Lib.hid (r9leave t r W id (.slice a n c) q u5 (by have := HQL.out; omega) HOk.out HCap.out HAt5.out)
  obtain ⟨X, hX⟩ : ∃ X, lvR ⟨t, r, W, q⟩ id = X := ⟨_, rfl⟩
  obtain ⟨Y, hY⟩ : ∃ Y, abRes ⟨t, r, W, q⟩ id = Y := ⟨_, rfl⟩
  rw [hX] at HLe
  have HXY := Lib.hid (And.intro hX hY)
  unfold HR1 hdV at HLe
  clear hX
  go_wp2_with fail
  go_at_call 26
  refine HLe.out.mono ?_
  rintro e u6 ⟨v6, rfl, g6, hR6, _⟩
  obtain ⟨x6, hx6, hxl6⟩ := rd_sl hR6
  obtain ⟨a6, n6, c6⟩ := x6
  simp only [slV] at hx6 hxl6
  subst hx6
  have H6 := Lib.hid (And.intro (H5.out.1.nw g6) (And.intro (H5.out.2.trans g6) (And.intro hR6 hxl6)))
  obtain ⟨x0, x1, x2, x3, hXe⟩ : ∃ x0 x1 x2 x3, X.1.t = x0 ∧ X.1.r = x1 ∧ X.1.W = x2 ∧ X.2 = x3 := ⟨_, _, _, _, rfl, rfl, rfl, rfl⟩
  rw [hXe.1, hXe.2.1, hXe.2.2.1, hXe.2.2.2]
  have HXe := Lib.hid hXe
  clear hXe c0 c1 c2 c3 hl g6 hR6 hxl6 HLe
  have hb7 : (u6.alloc (.cells #[.int .i64 x0, .int .i64 x1, .slice a6 n6 c6, .int .i64 x2] 27)).heap[u6.heap.size]? = some (.cells #[.int .i64 x0, .int .i64 x1, .slice a6 n6 c6, .int .i64 x2] 27) := allocAt u6 _
  obtain ⟨u7, hu7⟩ : ∃ u7, u6.alloc (.cells #[.int .i64 x0, .int .i64 x1, .slice a6 n6 c6, .int .i64 x2] 27) = u7 := ⟨_, rfl⟩
  have g7 : Nw u6 u7 := by rw [← hu7]; exact (Nw.refl u6).alloc _
  rw [hu7] at hb7
  have HU7 := Lib.hid hu7
  have H7 := Lib.hid (And.intro (H6.out.1.nw g7) (And.intro (H6.out.2.1.trans g7) (And.intro (H6.out.2.2.1.nw g7) hb7)))
  have HAt7 := Lib.hid (show RqAt u7 (.slice a n c) q by have := HAt.out.1.nw H7.out.2.1; rwa [HN0.out] at this)
  have HAb := Lib.hid (r9abandon t r W id (.slice a n c) q u7 (by have := HQL.out; omega) HOk.out HCap.out HAt7.out)
  rw [hY] at HAb
  unfold HR1 hdV at HAb
  clear hY hu7 g7 hb7
  have c0 := hcell (j := 0) H6.out.1
  have c1 := hcell (j := 1) H6.out.1
  have c2 := hcell (j := 2) H6.out.1
  have c3 := hcell (j := 3) H6.out.1
  have hl := hlt H6.out.1
  go_wp2_with fail
  rw [HU7.out]
  go_at_call 27
  refine HAb.out.mono ?_
  rintro e u8 ⟨v8, rfl, g8, hR8, _⟩
  obtain ⟨x8, hx8, hxl8⟩ := rd_sl hR8
  obtain ⟨a8, n8, c8⟩ := x8
  simp only [slV] at hx8 hxl8
  subst hx8
  obtain ⟨y0, y1, y2, y3, hYe⟩ : ∃ y0 y1 y2 y3, Y.1.t = y0 ∧ Y.1.r = y1 ∧ Y.1.W = y2 ∧ Y.2 = y3 := ⟨_, _, _, _, rfl, rfl, rfl, rfl⟩
  rw [hYe.1, hYe.2.1, hYe.2.2.1, hYe.2.2.2]
  have HYe := Lib.hid hYe
  have H8 := Lib.hid (And.intro (H7.out.1.nw g8) (And.intro (H7.out.2.1.trans g8) (And.intro (H7.out.2.2.1.nw g8) (And.intro (g8.at' H7.out.2.2.2) (And.intro hR8 hxl8)))))
  clear hYe c0 c1 c2 c3 hl g8 hR8 hxl8 HAb
  have hb9 : (u8.alloc (.cells #[.int .i64 y0, .int .i64 y1, .slice a8 n8 c8, .int .i64 y2] 27)).heap[u8.heap.size]? = some (.cells #[.int .i64 y0, .int .i64 y1, .slice a8 n8 c8, .int .i64 y2] 27) := allocAt u8 _
  obtain ⟨u9, hu9⟩ : ∃ u9, u8.alloc (.cells #[.int .i64 y0, .int .i64 y1, .slice a8 n8 c8, .int .i64 y2] 27) = u9 := ⟨_, rfl⟩
  have g9 : Nw u8 u9 := by rw [← hu9]; exact (Nw.refl u8).alloc _
  rw [hu9] at hb9
  have hs9 : u9.heap.size = u8.heap.size + 1 := by rw [← hu9]; simp
  have HU9 := Lib.hid (And.intro hu9 hs9)
  have H9 := Lib.hid (And.intro (H8.out.1.nw g9) (And.intro (H8.out.2.1.trans g9) (And.intro (H8.out.2.2.1.nw g9) (And.intro (g9.at' H8.out.2.2.2.1) (And.intro (H8.out.2.2.2.2.1.nw g9) hb9)))))
  have HAt9 := Lib.hid (show RqAt u9 (.slice a n c) q by have := HAt.out.1.nw H9.out.2.1; rwa [HN0.out] at this)
  clear hu9 g9 hb9 hs9
  have hO10 : Own 27 4 (hrow t r W) (u9.alloc (.cells #[.int .i64 t, .int .i64 r, .slice a n c, .int .i64 W] 27)) u9.heap.size (.slice (some ⟨u9.heap.size, 0, none⟩) 1 1) [(a, n, c)] := own_lit (elemHd t r W) u9 [(a, n, c)] (by simp)
  obtain ⟨u10, hu10⟩ : ∃ u10, u9.alloc (.cells #[.int .i64 t, .int .i64 r, .slice a n c, .int .i64 W] 27) = u10 := ⟨_, rfl⟩
  have g10 : Nw u9 u10 := by rw [← hu10]; exact (Nw.refl u9).alloc _
  rw [hu10] at hO10
  have HU10 := Lib.hid hu10
  have H10 := Lib.hid (And.intro hO10 g10)
  clear hO10 hu10 g10
  have c0 := hcell (j := 0) H9.out.1
  have c1 := hcell (j := 1) H9.out.1
  have c2 := hcell (j := 2) H9.out.1
  have c3 := hcell (j := 3) H9.out.1
  have hl := hlt H9.out.1
  have k0 := hcell (j := 0) H8.out.1
  have k1 := hcell (j := 1) H8.out.1
  have k2 := hcell (j := 2) H8.out.1
  have k3 := hcell (j := 3) H8.out.1
  have kl := hlt H8.out.1
  have hXa := HXY.out.1
  have hYa := HXY.out.2
  unfold lvR at hXa
  unfold abRes at hYa
  rw [HU9.out.2] at H10
  obtain ⟨g, hg⟩ : ∃ g, u8.heap.size + 1 = g := ⟨_, rfl⟩
  have HGs := Lib.hid hg
  have HU9s := Lib.hid (HU9.out.2.trans hg)
  rw [hg] at H10
  clear hg
  have HOk9 := Lib.hid (show HdOk u9 W (a, n, c) from ⟨q, HAt9.out, HOk.out, HQL.out⟩)
  have HC0 : Hid (Own 27 4 (hrow t r W) u10 g (.slice (some ⟨g, 0, none⟩) 1 1) [(a, n, c)] ∧ Nw u9 u10 ∧ ∀ x ∈ [(a, n, c)], HdOk u9 W x) := Lib.hid ⟨H10.out.1, H10.out.2, fun x hx => by rw [List.mem_singleton.1 hx]; exact HOk9.out⟩
  clear H10 HAt9
  cases hf : fnd q id with
  | none =>
    simp only [hf] at hXa hYa
    subst hXa
    subst hYa
    obtain ⟨rfl, rfl, rfl, rfl⟩ := HXe.out
    obtain ⟨rfl, rfl, rfl, rfl⟩ := HYe.out
    clear hf
    go_wp2_with fail
    rw [HU9.out.1]
    go_wp2_with fail
    rw [HU10.out, HGs.out]
    clear c0 c1 c2 c3 hl k0 k1 k2 k3 kl
    have HO := Lib.hid (show Own 27 4 (hrow t r W) u10 g (.slice (some ⟨g, 0, none⟩) 1 1) [(a, n, c)] ∧ 1 = ([(a, n, c)]).length ∧ Nw w u10 ∧ ∀ x ∈ [(a, n, c)], HdOk u10 W x from ⟨HC0.out.1, rfl, H9.out.2.1.trans HC0.out.2.1, fun x hx => by
      obtain ⟨qx, h1, h2⟩ := HC0.out.2.2 x hx
      exact ⟨qx, h1.nw HC0.out.2.1, h2⟩⟩)
    clear HC0 HOk9
    obtain ⟨L, hL⟩ : ∃ L, L = [(a, n, c)] := ⟨_, rfl⟩
    rw [← hL] at HO
    clear hL
    go_loopw [10] (fun i wr => ∃ k : Nat, k ≤ 1 ∧ i = .int .i64 k ∧ Nw u10 wr) (fun i _ => 1 - (intOf i).toNat)
    case atStart => exact ⟨0, Nat.zero_le _, rfl, Nw.refl _⟩
    case round =>
      obtain ⟨k, hk, rfl, hG⟩ := hrel
      by_cases hlk : k < 1
      · have hlk' : k < L.length := by have := HO.out.2.1; omega
        have hki : (k : Int) < (1 : Int) := by omega
        obtain ⟨qx, hqx, hokx, hlx⟩ := HO.out.2.2.2 L[k] (List.getElem_mem hlk')
        have hrd := Own.rd (elemHd t r W).len HO.out.1
        obtain ⟨ao, co, eo, ⟨e0, _⟩ | ⟨bo, oo, e0, hrc⟩⟩ := hrd
        · rw [e0] at hlk'; simp at hlk'
        simp only [Value.slice.injEq] at eo
        obtain ⟨eo, -⟩ := eo
        rw [e0] at eo
        simp only [Option.some.injEq, Addr.mk.injEq, and_true] at eo
        obtain ⟨rfl, rfl⟩ := eo
        have hce := fun (z : World) (hz : Nw u10 z) => (hrc.nw hz).cell k hlk'
        obtain ⟨x, hx⟩ : ∃ x, L[k] = x := ⟨_, rfl⟩
        rw [hx] at hce hqx
        obtain ⟨ax, nx, cx⟩ := x
        have s0 : ∀ z, Nw u10 z → z.cell? ⟨g, k * 4, none⟩ = some (.int .i64 t) := fun z hz => by have := hce z hz 0 _ rfl; simpa using this
        have s1 : ∀ z, Nw u10 z → z.cell? ⟨g, k * 4 + 1, none⟩ = some (.int .i64 r) := fun z hz => by have := hce z hz 1 _ rfl; simpa using this
        have s2 : ∀ z, Nw u10 z → z.cell? ⟨g, k * 4 + 2, none⟩ = some (.slice ax nx cx) := fun z hz => by have := hce z hz 2 _ rfl; simpa [slV] using this
        have s3 : ∀ z, Nw u10 z → z.cell? ⟨g, k * 4 + 3, none⟩ = some (.int .i64 W) := fun z hz => by have := hce z hz 3 _ rfl; simpa using this
        simp only [slV] at hqx
        have HQx := Lib.hid (And.intro hqx (And.intro hokx hlx))
        have S := Lib.hid (And.intro s0 (And.intro s1 (And.intro s2 s3)))
        have HG := Lib.hid hG
        have hOw := kOwnHead t r W (.slice ax nx cx) qx wr (by omega) (hqx.nw hG)
        unfold hdV at hOw
        have HOw := Lib.hid hOw
        have m0 := s0 _ hG
        have m1 := s1 _ hG
        have m2 := s2 _ hG
        have m3 := s3 _ hG
        have mg := World.block_lt_of_cell? _ _ m0
        clear hce hx hqx hokx hlx hrc e0 s0 s1 s2 s3 hG hOw hlk'
        go_wp2_with fail
        go_at_call 16
        refine HOw.out.mono ?_
        rintro e z1 ⟨v1, rfl, h1, hO1⟩
        have G1 := Lib.hid (HG.out.trans h1)
        have hsc := dScan t r W v1 qx z1 (by have := HQx.out.2.2; omega) HQx.out.2.1 (RqOwn.rd hO1) (stOk_small qx (by have := HQx.out.2.2; omega))
        obtain ⟨a1, k1, hv1⟩ := (RqOwn.rd hO1).form
        obtain ⟨n1, hn1⟩ : ∃ n1, qx.length = n1 := ⟨_, rfl⟩
        rw [hn1] at hv1
        subst hv1
        unfold hdV at hsc
        have HSc := Lib.hid hsc
        clear hsc hO1 h1 hn1 m0 m1 m2 m3 mg HOw
        go_wp2_with fail
        go_at_call 12
        refine HSc.out.mono ?_
        rintro e z2 ⟨v2, vi, rfl, h2, hR2, _, hI2, _, _⟩
        obtain ⟨x2, hx2, hxl2⟩ := rd_sl hR2
        obtain ⟨a2, n2, k2⟩ := x2
        simp only [slV] at hx2
        subst hx2
        have hb3 : (z2.alloc (.cells #[.int .i64 t, .int .i64 r, .slice a2 n2 k2, .int .i64 W] 27)).heap[z2.heap.size]? = some (.cells #[.int .i64 t, .int .i64 r, .slice a2 n2 k2, .int .i64 W] 27) := allocAt z2 _
        obtain ⟨z3, hz3⟩ : ∃ z3, z2.alloc (.cells #[.int .i64 t, .int .i64 r, .slice a2 n2 k2, .int .i64 W] 27) = z3 := ⟨_, rfl⟩
        have h3 : Nw z2 z3 := by rw [← hz3]; exact (Nw.refl z2).alloc _
        rw [hz3] at hb3
        have HZ3 := Lib.hid hz3
        have G3 := Lib.hid (And.intro ((G1.out.trans h2).trans h3) (And.intro hb3 (And.intro (hR2.nw h3) (hI2.nw h3))))
        have hrs := r9scan t r W (.slice ax nx cx) qx z3 (by have := HQx.out.2.2; omega) HQx.out.2.1 (HQx.out.1.nw ((G1.out.trans h2).trans h3))
        unfold hdV at hrs
        have HRs := Lib.hid hrs
        obtain ⟨ai, ci, hvi, _⟩ := hI2.box
        obtain ⟨ni, hni⟩ : ∃ ni, (scanQ qx).1.length = ni := ⟨_, rfl⟩
        rw [hni] at hvi
        have m0 := S.out.1 z2 (G1.out.trans h2)
        have m1 := S.out.2.1 z2 (G1.out.trans h2)
        have m2 := S.out.2.2.1 z2 (G1.out.trans h2)
        have m3 := S.out.2.2.2 z2 (G1.out.trans h2)
        have m0' := S.out.1 z3 G3.out.1
        have m1' := S.out.2.1 z3 G3.out.1
        have m2' := S.out.2.2.1 z3 G3.out.1
        have m3' := S.out.2.2.2 z3 G3.out.1
        have mg := World.block_lt_of_cell? _ _ m0
        have mg' := World.block_lt_of_cell? _ _ m0'
        subst hvi
        clear hz3 h2 h3 hR2 hI2 hb3 hxl2 hrs hni HSc
        go_wp2_with fail
        rw [HZ3.out]
        go_wp2_with fail
        go_at_call 28
        refine HRs.out.mono ?_
        rintro e z4 ⟨v4, vj, rfl, h4, hR4, _, hI4⟩
        obtain ⟨x4, hx4, hxl4⟩ := rd_sl hR4
        obtain ⟨a4, n4, k4⟩ := x4
        simp only [slV] at hx4
        subst hx4
        have hb5 : (z4.alloc (.cells #[.int .i64 t, .int .i64 r, .slice a4 n4 k4, .int .i64 W] 27)).heap[z4.heap.size]? = some (.cells #[.int .i64 t, .int .i64 r, .slice a4 n4 k4, .int .i64 W] 27) := allocAt z4 _
        obtain ⟨z5, hz5⟩ : ∃ z5, z4.alloc (.cells #[.int .i64 t, .int .i64 r, .slice a4 n4 k4, .int .i64 W] 27) = z5 := ⟨_, rfl⟩
        have h5 : Nw z4 z5 := by rw [← hz5]; exact (Nw.refl z4).alloc _
        rw [hz5] at hb5
        have HZ5 := Lib.hid hz5
        have G5 := Lib.hid (And.intro (G3.out.1.trans (h4.trans h5)) (And.intro hb5 (And.intro ((h4.trans h5).at' G3.out.2.1) (And.intro (G3.out.2.2.2.nw (h4.trans h5)) (hI4.nw h5)))))
        have hsm := r9same_eq t r W _ _ (scanQ qx).2 z5 (by rw [scan_len HQx.out.2.1]; have := HQx.out.2.2; omega) (G3.out.2.2.1.nw (h4.trans h5)) (hR4.nw h5)
        unfold hdV at hsm
        have HSm := Lib.hid hsm
        obtain ⟨aj, cj, hvj, _⟩ := hI4.box
        obtain ⟨nj, hnj⟩ : ∃ nj, (scanQ qx).1.length = nj := ⟨_, rfl⟩
        rw [hnj] at hvj
        subst hvj
        have p0 := hcell (j := 0) (h4.at' G3.out.2.1)
        have p1 := hcell (j := 1) (h4.at' G3.out.2.1)
        have p2 := hcell (j := 2) (h4.at' G3.out.2.1)
        have p3 := hcell (j := 3) (h4.at' G3.out.2.1)
        have pl := hlt (h4.at' G3.out.2.1)
        clear hz5 h4 h5 hR4 hI4 hb5 hxl4 hsm hnj HRs m0 m1 m2 m3 m0' m1' m2' m3' mg mg'
        go_wp2_with fail
        rw [HZ5.out]
        go_at_call 29
        refine HSm.out.mono ?_
        rintro e z6 ⟨rfl, h6⟩
        have HSi := Lib.hid (same_any z6 _ _ (scanQ qx).1 (G5.out.2.2.2.1.nw h6) (G5.out.2.2.2.2.nw h6))
        have G6 := Lib.hid (G5.out.1.trans h6)
        clear p0 p1 p2 p3 pl h6 HSm
        go_wp2_with fail
        go_at_call 17
        refine HSi.out.mono ?_
        rintro e z7 ⟨rfl, h7⟩
        have G7 := Lib.hid (G6.out.trans h7)
        clear h7 HSi
        go_wp2
        go_roundw
        case rel => exact ⟨k + 1, by omega, by go_num, G7.out⟩
        case measure => simp [intOf]; omega
      · obtain rfl : k = 1 := by omega
        have HG := Lib.hid hG
        clear hG
        go_wp2
        go_ret
        exact ⟨rfl, HO.out.2.2.1.trans HG.out⟩
  | some R =>
    have hR := (fnd_is hf).1
    simp only [hf] at hXa hYa
    subst hXa
    have hXe := HXe.out
    simp only at hXe
    obtain ⟨rfl, rfl, rfl, rfl⟩ := hXe
    clear HXe
    have HOk6 := Lib.hid (show HdOk u9 W (a6, n6, c6) from ⟨lvQ id q, H9.out.2.2.1, ok_lv HOk.out id, Nat.le_trans (lv_len id q) HQL.out⟩)
    obtain ⟨uA1, huA1⟩ : ∃ z, u10.alloc (.cells #[.int .i64 t, .int .i64 r, .slice a6 n6 c6, .int .i64 W] 27) = z := ⟨_, rfl⟩
    have gA1 : Nw u10 uA1 := by rw [← huA1]; exact (Nw.refl u10).alloc _
    have hbA1 : uA1.heap[u10.heap.size]? = some (.cells #[.int .i64 t, .int .i64 r, .slice a6 n6 c6, .int .i64 W] 27) := by rw [← huA1]; exact allocAt u10 _
    obtain ⟨vB1, uB1, hrun1, hOB1, hgr1, hdj1, gB1, cap1, hvB1⟩ := Own.push (l := [(a, n, c)]) (elemHd t r W) (onw HC0.out.1 gA1) (a6, n6, c6) u10.heap.size 1 (fun j u' hu' => by rw [hcell hbA1, ← Array.getElem?_toList]; exact hu') (by simp) (by have := HC0.out.2.1.sz; have := gA1.sz; have := HU9s.out; omega)
    subst hvB1
    clear hdj1
    simp only [List.length_cons, List.length_nil, Nat.zero_add, Nat.reduceAdd] at hrun1 hOB1
    have gN1 : Nw u9 uB1 := (HC0.out.2.1.trans gA1).gro hgr1 (fun k hk => by have := oge HC0.out.1 hk; have := HU9s.out; omega)
    rw [← huA1] at hrun1
    have hs10 : u10.heap.size = u8.heap.size + 1 + 1 := by
      have h1 : (u9.alloc (.cells #[.int .i64 t, .int .i64 r, .slice a n c, .int .i64 W] 27)).heap.size = u9.heap.size + 1 := by simp
      have h2 := HU9.out.2; rw [HU10.out] at h1; omega
    rw [hs10, ← HGs.out, ← HU10.out, ← HU9.out.1] at hrun1
    clear hs10
    have HR1 := Lib.hid hrun1
    have HB1 := Lib.hid (And.intro hOB1 (And.intro gN1 HC0.out.2.2))
    clear huA1 gA1 hbA1 hgr1 hOB1 gN1 hrun1
    have HC1 : Hid (Own 27 4 (hrow t r W) uB1 g (.slice (some ⟨gB1, 0, none⟩) 2 cap1) [(a, n, c), (a6, n6, c6)] ∧ Nw u9 uB1 ∧ ∀ x ∈ [(a, n, c), (a6, n6, c6)], HdOk u9 W x) := Lib.hid ⟨HB1.out.1, HB1.out.2.1, fun x hx => by
      rcases List.mem_append.1 (show x ∈ [(a, n, c)] ++ [(a6, n6, c6)] from hx) with hx | hx
      · exact HB1.out.2.2 x hx
      · rw [List.mem_singleton.1 hx]; exact HOk6.out⟩
    clear HB1
    by_cases hs : 0 < R.sn
    · simp only [if_pos hs] at hYa
      subst hYa
      have hYe := HYe.out
      simp only at hYe
      obtain ⟨rfl, rfl, rfl, rfl⟩ := hYe
      clear HYe hs hf
      have HOk8 := Lib.hid (show HdOk u9 W (a8, n8, c8) from ⟨abQ R q, H9.out.2.2.2.2.1, ok_ab HOk.out R hR, Nat.le_trans (abQ_len R q) HQL.out⟩)
      obtain ⟨uA2, huA2⟩ : ∃ z, uB1.alloc (.cells #[.int .i64 t, .int .i64 r, .slice a8 n8 c8, .int .i64 W] 27) = z := ⟨_, rfl⟩
      have gA2 : Nw uB1 uA2 := by rw [← huA2]; exact (Nw.refl uB1).alloc _
      have hbA2 : uA2.heap[uB1.heap.size]? = some (.cells #[.int .i64 t, .int .i64 r, .slice a8 n8 c8, .int .i64 W] 27) := by rw [← huA2]; exact allocAt uB1 _
      obtain ⟨vB2, uB2, hrun2, hOB2, hgr2, hdj2, gB2, cap2, hvB2⟩ := Own.push (l := [(a, n, c), (a6, n6, c6)]) (elemHd t r W) (onw HC1.out.1 gA2) (a8, n8, c8) uB1.heap.size 1 (fun j u' hu' => by rw [hcell hbA2, ← Array.getElem?_toList]; exact hu') (by simp) (by have := HC1.out.2.1.sz; have := gA2.sz; have := HU9s.out; omega)
      subst hvB2
      clear hdj2
      simp only [List.length_cons, List.length_nil, Nat.zero_add, Nat.reduceAdd] at hrun2 hOB2
      have gN2 : Nw u9 uB2 := (HC1.out.2.1.trans gA2).gro hgr2 (fun k hk => by have := oge HC1.out.1 hk; have := HU9s.out; omega)
      rw [← huA2] at hrun2
      have HR2 := Lib.hid hrun2
      have HB2 := Lib.hid (And.intro hOB2 (And.intro gN2 HC1.out.2.2))
      clear huA2 gA2 hbA2 hgr2 hOB2 gN2 hrun2
      have HC2 : Hid (Own 27 4 (hrow t r W) uB2 g (.slice (some ⟨gB2, 0, none⟩) 3 cap2) [(a, n, c), (a6, n6, c6), (a8, n8, c8)] ∧ Nw u9 uB2 ∧ ∀ x ∈ [(a, n, c), (a6, n6, c6), (a8, n8, c8)], HdOk u9 W x) := Lib.hid ⟨HB2.out.1, HB2.out.2.1, fun x hx => by
        rcases List.mem_append.1 (show x ∈ [(a, n, c), (a6, n6, c6)] ++ [(a8, n8, c8)] from hx) with hx | hx
        · exact HB2.out.2.2 x hx
        · rw [List.mem_singleton.1 hx]; exact HOk8.out⟩
      clear HB2
      have d0 := hcell (j := 0) (H8.out.2.2.2.1)
      have d1 := hcell (j := 1) (H8.out.2.2.2.1)
      have d2 := hcell (j := 2) (H8.out.2.2.2.1)
      have d3 := hcell (j := 3) (H8.out.2.2.2.1)
      have dl := hlt (H8.out.2.2.2.1)
      have e0 := hcell (j := 0) (HC1.out.2.1.at' H9.out.2.2.2.2.2)
      have e1 := hcell (j := 1) (HC1.out.2.1.at' H9.out.2.2.2.2.2)
      have e2 := hcell (j := 2) (HC1.out.2.1.at' H9.out.2.2.2.2.2)
      have e3 := hcell (j := 3) (HC1.out.2.1.at' H9.out.2.2.2.2.2)
      have el := hlt (HC1.out.2.1.at' H9.out.2.2.2.2.2)
      clear hR HXY
      go_wp2_with (at_builtin; (first | (refine wpl_app (by rfl) (.tmp 42) (.tmp 44) 53 rfl _ _ _ _ rfl rfl HR1.out ?_) | (refine wpl_app (by rfl) (.tmp 48) (.tmp 50) 53 rfl _ _ _ _ rfl rfl HR2.out ?_)))
      clear c0 c1 c2 c3 hl k0 k1 k2 k3 kl
      have HO := Lib.hid (show Own 27 4 (hrow t r W) uB2 g (.slice (some ⟨gB2, 0, none⟩) 3 cap2) [(a, n, c), (a6, n6, c6), (a8, n8, c8)] ∧ 3 = ([(a, n, c), (a6, n6, c6), (a8, n8, c8)]).length ∧ Nw w uB2 ∧ ∀ x ∈ [(a, n, c), (a6, n6, c6), (a8, n8, c8)], HdOk uB2 W x from ⟨HC2.out.1, rfl, H9.out.2.1.trans HC2.out.2.1, fun x hx => by
        obtain ⟨qx, h1, h2⟩ := HC2.out.2.2 x hx
        exact ⟨qx, h1.nw HC2.out.2.1, h2⟩⟩)
      clear d0 d1 d2 d3 dl e0 e1 e2 e3 el HC0 HC1 HC2 HOk9 HOk6 HOk8 HR1 HR2
      obtain ⟨L, hL⟩ : ∃ L, L = [(a, n, c), (a6, n6, c6), (a8, n8, c8)] := ⟨_, rfl⟩
      rw [← hL] at HO
      clear hL
      go_loopw [10] (fun i wr => ∃ k : Nat, k ≤ 3 ∧ i = .int .i64 k ∧ Nw uB2 wr) (fun i _ => 3 - (intOf i).toNat)
      case atStart => exact ⟨0, Nat.zero_le _, rfl, Nw.refl _⟩
      case round =>
        obtain ⟨k, hk, rfl, hG⟩ := hrel
        by_cases hlk : k < 3
        · have hlk' : k < L.length := by have := HO.out.2.1; omega
          have hki : (k : Int) < (3 : Int) := by omega
          obtain ⟨qx, hqx, hokx, hlx⟩ := HO.out.2.2.2 L[k] (List.getElem_mem hlk')
          have hrd := Own.rd (elemHd t r W).len HO.out.1
          obtain ⟨ao, co, eo, ⟨e0, _⟩ | ⟨bo, oo, e0, hrc⟩⟩ := hrd
          · rw [e0] at hlk'; simp at hlk'
          simp only [Value.slice.injEq] at eo
          obtain ⟨eo, -⟩ := eo
          rw [e0] at eo
          simp only [Option.some.injEq, Addr.mk.injEq, and_true] at eo
          obtain ⟨rfl, rfl⟩ := eo
          have hce := fun (z : World) (hz : Nw uB2 z) => (hrc.nw hz).cell k hlk'
          obtain ⟨x, hx⟩ : ∃ x, L[k] = x := ⟨_, rfl⟩
          rw [hx] at hce hqx
          obtain ⟨ax, nx, cx⟩ := x
          have s0 : ∀ z, Nw uB2 z → z.cell? ⟨gB2, k * 4, none⟩ = some (.int .i64 t) := fun z hz => by have := hce z hz 0 _ rfl; simpa using this
          have s1 : ∀ z, Nw uB2 z → z.cell? ⟨gB2, k * 4 + 1, none⟩ = some (.int .i64 r) := fun z hz => by have := hce z hz 1 _ rfl; simpa using this
          have s2 : ∀ z, Nw uB2 z → z.cell? ⟨gB2, k * 4 + 2, none⟩ = some (.slice ax nx cx) := fun z hz => by have := hce z hz 2 _ rfl; simpa [slV] using this
          have s3 : ∀ z, Nw uB2 z → z.cell? ⟨gB2, k * 4 + 3, none⟩ = some (.int .i64 W) := fun z hz => by have := hce z hz 3 _ rfl; simpa using this
          simp only [slV] at hqx
          have HQx := Lib.hid (And.intro hqx (And.intro hokx hlx))
          have S := Lib.hid (And.intro s0 (And.intro s1 (And.intro s2 s3)))
          have HG := Lib.hid hG
          have hOw := kOwnHead t r W (.slice ax nx cx) qx wr (by omega) (hqx.nw hG)
          unfold hdV at hOw
          have HOw := Lib.hid hOw
          have m0 := s0 _ hG
          have m1 := s1 _ hG
          have m2 := s2 _ hG
          have m3 := s3 _ hG
          have mg := World.block_lt_of_cell? _ _ m0
          clear hce hx hqx hokx hlx hrc e0 s0 s1 s2 s3 hG hOw hlk'
          go_wp2_with fail
          go_at_call 16
          refine HOw.out.mono ?_
          rintro e z1 ⟨v1, rfl, h1, hO1⟩
          have G1 := Lib.hid (HG.out.trans h1)
          have hsc := dScan t r W v1 qx z1 (by have := HQx.out.2.2; omega) HQx.out.2.1 (RqOwn.rd hO1) (stOk_small qx (by have := HQx.out.2.2; omega))
          obtain ⟨a1, k1, hv1⟩ := (RqOwn.rd hO1).form
          obtain ⟨n1, hn1⟩ : ∃ n1, qx.length = n1 := ⟨_, rfl⟩
          rw [hn1] at hv1
          subst hv1
          unfold hdV at hsc
          have HSc := Lib.hid hsc
          clear hsc hO1 h1 hn1 m0 m1 m2 m3 mg HOw
          go_wp2_with fail
          go_at_call 12
          refine HSc.out.mono ?_
          rintro e z2 ⟨v2, vi, rfl, h2, hR2, _, hI2, _, _⟩
          obtain ⟨x2, hx2, hxl2⟩ := rd_sl hR2
          obtain ⟨a2, n2, k2⟩ := x2
          simp only [slV] at hx2
          subst hx2
          have hb3 : (z2.alloc (.cells #[.int .i64 t, .int .i64 r, .slice a2 n2 k2, .int .i64 W] 27)).heap[z2.heap.size]? = some (.cells #[.int .i64 t, .int .i64 r, .slice a2 n2 k2, .int .i64 W] 27) := allocAt z2 _
          obtain ⟨z3, hz3⟩ : ∃ z3, z2.alloc (.cells #[.int .i64 t, .int .i64 r, .slice a2 n2 k2, .int .i64 W] 27) = z3 := ⟨_, rfl⟩
          have h3 : Nw z2 z3 := by rw [← hz3]; exact (Nw.refl z2).alloc _
          rw [hz3] at hb3
          have HZ3 := Lib.hid hz3
          have G3 := Lib.hid (And.intro ((G1.out.trans h2).trans h3) (And.intro hb3 (And.intro (hR2.nw h3) (hI2.nw h3))))
          have hrs := r9scan t r W (.slice ax nx cx) qx z3 (by have := HQx.out.2.2; omega) HQx.out.2.1 (HQx.out.1.nw ((G1.out.trans h2).trans h3))
          unfold hdV at hrs
          have HRs := Lib.hid hrs
          obtain ⟨ai, ci, hvi, _⟩ := hI2.box
          obtain ⟨ni, hni⟩ : ∃ ni, (scanQ qx).1.length = ni := ⟨_, rfl⟩
          rw [hni] at hvi
          have m0 := S.out.1 z2 (G1.out.trans h2)
          have m1 := S.out.2.1 z2 (G1.out.trans h2)
          have m2 := S.out.2.2.1 z2 (G1.out.trans h2)
          have m3 := S.out.2.2.2 z2 (G1.out.trans h2)
          have m0' := S.out.1 z3 G3.out.1
          have m1' := S.out.2.1 z3 G3.out.1
          have m2' := S.out.2.2.1 z3 G3.out.1
          have m3' := S.out.2.2.2 z3 G3.out.1
          have mg := World.block_lt_of_cell? _ _ m0
          have mg' := World.block_lt_of_cell? _ _ m0'
          subst hvi
          clear hz3 h2 h3 hR2 hI2 hb3 hxl2 hrs hni HSc
          go_wp2_with fail
          rw [HZ3.out]
          go_wp2_with fail
          go_at_call 28
          refine HRs.out.mono ?_
          rintro e z4 ⟨v4, vj, rfl, h4, hR4, _, hI4⟩
          obtain ⟨x4, hx4, hxl4⟩ := rd_sl hR4
          obtain ⟨a4, n4, k4⟩ := x4
          simp only [slV] at hx4
          subst hx4
          have hb5 : (z4.alloc (.cells #[.int .i64 t, .int .i64 r, .slice a4 n4 k4, .int .i64 W] 27)).heap[z4.heap.size]? = some (.cells #[.int .i64 t, .int .i64 r, .slice a4 n4 k4, .int .i64 W] 27) := allocAt z4 _
          obtain ⟨z5, hz5⟩ : ∃ z5, z4.alloc (.cells #[.int .i64 t, .int .i64 r, .slice a4 n4 k4, .int .i64 W] 27) = z5 := ⟨_, rfl⟩
          have h5 : Nw z4 z5 := by rw [← hz5]; exact (Nw.refl z4).alloc _
          rw [hz5] at hb5
          have HZ5 := Lib.hid hz5
          have G5 := Lib.hid (And.intro (G3.out.1.trans (h4.trans h5)) (And.intro hb5 (And.intro ((h4.trans h5).at' G3.out.2.1) (And.intro (G3.out.2.2.2.nw (h4.trans h5)) (hI4.nw h5)))))
          have hsm := r9same_eq t r W _ _ (scanQ qx).2 z5 (by rw [scan_len HQx.out.2.1]; have := HQx.out.2.2; omega) (G3.out.2.2.1.nw (h4.trans h5)) (hR4.nw h5)
          unfold hdV at hsm
          have HSm := Lib.hid hsm
          obtain ⟨aj, cj, hvj, _⟩ := hI4.box
          obtain ⟨nj, hnj⟩ : ∃ nj, (scanQ qx).1.length = nj := ⟨_, rfl⟩
          rw [hnj] at hvj
          subst hvj
          have p0 := hcell (j := 0) (h4.at' G3.out.2.1)
          have p1 := hcell (j := 1) (h4.at' G3.out.2.1)
          have p2 := hcell (j := 2) (h4.at' G3.out.2.1)
          have p3 := hcell (j := 3) (h4.at' G3.out.2.1)
          have pl := hlt (h4.at' G3.out.2.1)
          clear hz5 h4 h5 hR4 hI4 hb5 hxl4 hsm hnj HRs m0 m1 m2 m3 m0' m1' m2' m3' mg mg'
          go_wp2_with fail
          rw [HZ5.out]
          go_at_call 29
          refine HSm.out.mono ?_
          rintro e z6 ⟨rfl, h6⟩
          have HSi := Lib.hid (same_any z6 _ _ (scanQ qx).1 (G5.out.2.2.2.1.nw h6) (G5.out.2.2.2.2.nw h6))
          have G6 := Lib.hid (G5.out.1.trans h6)
          clear p0 p1 p2 p3 pl h6 HSm
          go_wp2_with fail
          go_at_call 17
          refine HSi.out.mono ?_
          rintro e z7 ⟨rfl, h7⟩
          have G7 := Lib.hid (G6.out.trans h7)
          clear h7 HSi
          go_wp2
          go_roundw
          case rel => exact ⟨k + 1, by omega, by go_num, G7.out⟩
          case measure => simp [intOf]; omega
        · obtain rfl : k = 3 := by omega
          have HG := Lib.hid hG
          clear hG
          go_wp2
          go_ret
          exact ⟨rfl, HO.out.2.2.1.trans HG.out⟩
    · simp only [if_neg hs] at hYa
      subst hYa
      obtain ⟨rfl, rfl, rfl, rfl⟩ := HYe.out
      clear HYe hs hf
      have d0 := hcell (j := 0) (H8.out.2.2.2.1)
      have d1 := hcell (j := 1) (H8.out.2.2.2.1)
      have d2 := hcell (j := 2) (H8.out.2.2.2.1)
      have d3 := hcell (j := 3) (H8.out.2.2.2.1)
      have dl := hlt (H8.out.2.2.2.1)
      clear hR HXY
      go_wp2_with (at_builtin; (refine wpl_app (by rfl) (.tmp 42) (.tmp 44) 53 rfl _ _ _ _ rfl rfl HR1.out ?_))
      clear c0 c1 c2 c3 hl k0 k1 k2 k3 kl
      have HO := Lib.hid (show Own 27 4 (hrow t r W) uB1 g (.slice (some ⟨gB1, 0, none⟩) 2 cap1) [(a, n, c), (a6, n6, c6)] ∧ 2 = ([(a, n, c), (a6, n6, c6)]).length ∧ Nw w uB1 ∧ ∀ x ∈ [(a, n, c), (a6, n6, c6)], HdOk uB1 W x from ⟨HC1.out.1, rfl, H9.out.2.1.trans HC1.out.2.1, fun x hx => by
        obtain ⟨qx, h1, h2⟩ := HC1.out.2.2 x hx
        exact ⟨qx, h1.nw HC1.out.2.1, h2⟩⟩)
      clear d0 d1 d2 d3 dl HC0 HC1 HOk9 HOk6 HR1
      obtain ⟨L, hL⟩ : ∃ L, L = [(a, n, c), (a6, n6, c6)] := ⟨_, rfl⟩
      rw [← hL] at HO
      clear hL
      go_loopw [10] (fun i wr => ∃ k : Nat, k ≤ 2 ∧ i = .int .i64 k ∧ Nw uB1 wr) (fun i _ => 2 - (intOf i).toNat)
      case atStart => exact ⟨0, Nat.zero_le _, rfl, Nw.refl _⟩
      case round =>
        obtain ⟨k, hk, rfl, hG⟩ := hrel
        by_cases hlk : k < 2
        · have hlk' : k < L.length := by have := HO.out.2.1; omega
          have hki : (k : Int) < (2 : Int) := by omega
          obtain ⟨qx, hqx, hokx, hlx⟩ := HO.out.2.2.2 L[k] (List.getElem_mem hlk')
          have hrd := Own.rd (elemHd t r W).len HO.out.1
          obtain ⟨ao, co, eo, ⟨e0, _⟩ | ⟨bo, oo, e0, hrc⟩⟩ := hrd
          · rw [e0] at hlk'; simp at hlk'
          simp only [Value.slice.injEq] at eo
          obtain ⟨eo, -⟩ := eo
          rw [e0] at eo
          simp only [Option.some.injEq, Addr.mk.injEq, and_true] at eo
          obtain ⟨rfl, rfl⟩ := eo
          have hce := fun (z : World) (hz : Nw uB1 z) => (hrc.nw hz).cell k hlk'
          obtain ⟨x, hx⟩ : ∃ x, L[k] = x := ⟨_, rfl⟩
          rw [hx] at hce hqx
          obtain ⟨ax, nx, cx⟩ := x
          have s0 : ∀ z, Nw uB1 z → z.cell? ⟨gB1, k * 4, none⟩ = some (.int .i64 t) := fun z hz => by have := hce z hz 0 _ rfl; simpa using this
          have s1 : ∀ z, Nw uB1 z → z.cell? ⟨gB1, k * 4 + 1, none⟩ = some (.int .i64 r) := fun z hz => by have := hce z hz 1 _ rfl; simpa using this
          have s2 : ∀ z, Nw uB1 z → z.cell? ⟨gB1, k * 4 + 2, none⟩ = some (.slice ax nx cx) := fun z hz => by have := hce z hz 2 _ rfl; simpa [slV] using this
          have s3 : ∀ z, Nw uB1 z → z.cell? ⟨gB1, k * 4 + 3, none⟩ = some (.int .i64 W) := fun z hz => by have := hce z hz 3 _ rfl; simpa using this
          simp only [slV] at hqx
          have HQx := Lib.hid (And.intro hqx (And.intro hokx hlx))
          have S := Lib.hid (And.intro s0 (And.intro s1 (And.intro s2 s3)))
          have HG := Lib.hid hG
          have hOw := kOwnHead t r W (.slice ax nx cx) qx wr (by omega) (hqx.nw hG)
          unfold hdV at hOw
          have HOw := Lib.hid hOw
          have m0 := s0 _ hG
          have m1 := s1 _ hG
          have m2 := s2 _ hG
          have m3 := s3 _ hG
          have mg := World.block_lt_of_cell? _ _ m0
          clear hce hx hqx hokx hlx hrc e0 s0 s1 s2 s3 hG hOw hlk'
          go_wp2_with fail
          go_at_call 16
          refine HOw.out.mono ?_
          rintro e z1 ⟨v1, rfl, h1, hO1⟩
          have G1 := Lib.hid (HG.out.trans h1)
          have hsc := dScan t r W v1 qx z1 (by have := HQx.out.2.2; omega) HQx.out.2.1 (RqOwn.rd hO1) (stOk_small qx (by have := HQx.out.2.2; omega))
          obtain ⟨a1, k1, hv1⟩ := (RqOwn.rd hO1).form
          obtain ⟨n1, hn1⟩ : ∃ n1, qx.length = n1 := ⟨_, rfl⟩
          rw [hn1] at hv1
          subst hv1
          unfold hdV at hsc
          have HSc := Lib.hid hsc
          clear hsc hO1 h1 hn1 m0 m1 m2 m3 mg HOw
          go_wp2_with fail
          go_at_call 12
          refine HSc.out.mono ?_
          rintro e z2 ⟨v2, vi, rfl, h2, hR2, _, hI2, _, _⟩
          obtain ⟨x2, hx2, hxl2⟩ := rd_sl hR2
          obtain ⟨a2, n2, k2⟩ := x2
          simp only [slV] at hx2
          subst hx2
          have hb3 : (z2.alloc (.cells #[.int .i64 t, .int .i64 r, .slice a2 n2 k2, .int .i64 W] 27)).heap[z2.heap.size]? = some (.cells #[.int .i64 t, .int .i64 r, .slice a2 n2 k2, .int .i64 W] 27) := allocAt z2 _
          obtain ⟨z3, hz3⟩ : ∃ z3, z2.alloc (.cells #[.int .i64 t, .int .i64 r, .slice a2 n2 k2, .int .i64 W] 27) = z3 := ⟨_, rfl⟩
          have h3 : Nw z2 z3 := by rw [← hz3]; exact (Nw.refl z2).alloc _
          rw [hz3] at hb3
          have HZ3 := Lib.hid hz3
          have G3 := Lib.hid (And.intro ((G1.out.trans h2).trans h3) (And.intro hb3 (And.intro (hR2.nw h3) (hI2.nw h3))))
          have hrs := r9scan t r W (.slice ax nx cx) qx z3 (by have := HQx.out.2.2; omega) HQx.out.2.1 (HQx.out.1.nw ((G1.out.trans h2).trans h3))
          unfold hdV at hrs
          have HRs := Lib.hid hrs
          obtain ⟨ai, ci, hvi, _⟩ := hI2.box
          obtain ⟨ni, hni⟩ : ∃ ni, (scanQ qx).1.length = ni := ⟨_, rfl⟩
          rw [hni] at hvi
          have m0 := S.out.1 z2 (G1.out.trans h2)
          have m1 := S.out.2.1 z2 (G1.out.trans h2)
          have m2 := S.out.2.2.1 z2 (G1.out.trans h2)
          have m3 := S.out.2.2.2 z2 (G1.out.trans h2)
          have m0' := S.out.1 z3 G3.out.1
          have m1' := S.out.2.1 z3 G3.out.1
          have m2' := S.out.2.2.1 z3 G3.out.1
          have m3' := S.out.2.2.2 z3 G3.out.1
          have mg := World.block_lt_of_cell? _ _ m0
          have mg' := World.block_lt_of_cell? _ _ m0'
          subst hvi
          clear hz3 h2 h3 hR2 hI2 hb3 hxl2 hrs hni HSc
          go_wp2_with fail
          rw [HZ3.out]
          go_wp2_with fail
          go_at_call 28
          refine HRs.out.mono ?_
          rintro e z4 ⟨v4, vj, rfl, h4, hR4, _, hI4⟩
          obtain ⟨x4, hx4, hxl4⟩ := rd_sl hR4
          obtain ⟨a4, n4, k4⟩ := x4
          simp only [slV] at hx4
          subst hx4
          have hb5 : (z4.alloc (.cells #[.int .i64 t, .int .i64 r, .slice a4 n4 k4, .int .i64 W] 27)).heap[z4.heap.size]? = some (.cells #[.int .i64 t, .int .i64 r, .slice a4 n4 k4, .int .i64 W] 27) := allocAt z4 _
          obtain ⟨z5, hz5⟩ : ∃ z5, z4.alloc (.cells #[.int .i64 t, .int .i64 r, .slice a4 n4 k4, .int .i64 W] 27) = z5 := ⟨_, rfl⟩
          have h5 : Nw z4 z5 := by rw [← hz5]; exact (Nw.refl z4).alloc _
          rw [hz5] at hb5
          have HZ5 := Lib.hid hz5
          have G5 := Lib.hid (And.intro (G3.out.1.trans (h4.trans h5)) (And.intro hb5 (And.intro ((h4.trans h5).at' G3.out.2.1) (And.intro (G3.out.2.2.2.nw (h4.trans h5)) (hI4.nw h5)))))
          have hsm := r9same_eq t r W _ _ (scanQ qx).2 z5 (by rw [scan_len HQx.out.2.1]; have := HQx.out.2.2; omega) (G3.out.2.2.1.nw (h4.trans h5)) (hR4.nw h5)
          unfold hdV at hsm
          have HSm := Lib.hid hsm
          obtain ⟨aj, cj, hvj, _⟩ := hI4.box
          obtain ⟨nj, hnj⟩ : ∃ nj, (scanQ qx).1.length = nj := ⟨_, rfl⟩
          rw [hnj] at hvj
          subst hvj
          have p0 := hcell (j := 0) (h4.at' G3.out.2.1)
          have p1 := hcell (j := 1) (h4.at' G3.out.2.1)
          have p2 := hcell (j := 2) (h4.at' G3.out.2.1)
          have p3 := hcell (j := 3) (h4.at' G3.out.2.1)
          have pl := hlt (h4.at' G3.out.2.1)
          clear hz5 h4 h5 hR4 hI4 hb5 hxl4 hsm hnj HRs m0 m1 m2 m3 m0' m1' m2' m3' mg mg'
          go_wp2_with fail
          rw [HZ5.out]
          go_at_call 29
          refine HSm.out.mono ?_
          rintro e z6 ⟨rfl, h6⟩
          have HSi := Lib.hid (same_any z6 _ _ (scanQ qx).1 (G5.out.2.2.2.1.nw h6) (G5.out.2.2.2.2.nw h6))
          have G6 := Lib.hid (G5.out.1.trans h6)
          clear p0 p1 p2 p3 pl h6 HSm
          go_wp2_with fail
          go_at_call 17
          refine HSi.out.mono ?_
          rintro e z7 ⟨rfl, h7⟩
          have G7 := Lib.hid (G6.out.trans h7)
          clear h7 HSi
          go_wp2
          go_roundw
          case rel => exact ⟨k + 1, by omega, by go_num, G7.out⟩
          case measure => simp [intOf]; omega
        · obtain rfl : k = 2 := by omega
          have HG := Lib.hid hG
          clear hG
          go_wp2
          go_ret
          exact ⟨rfl, HO.out.2.2.1.trans HG.out⟩
end Go.Proofs.Ytmciiobncfchlaa
