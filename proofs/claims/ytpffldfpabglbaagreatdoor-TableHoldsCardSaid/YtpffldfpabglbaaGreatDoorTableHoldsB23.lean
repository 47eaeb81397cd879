/- Texts merged: TbW, TbY, TbG, TcA, TcG -/
import Derived.Test.YtpffldfpabglbaaGreatDoorTableHoldsB22

/- The table laws: Same of what is held; lives; call. -/
section
namespace Go.Proofs.YtpffldfpabglbaaGreatDoor
open Go.RowKit Go.Shelf
set_option linter.unusedVariables false      -- a contract need not use every name

set_option maxRecDepth 100000 in
set_option maxHeartbeats 2000000 in
theorem sameL_rows (b o c b' o' c' : Nat) (l : List Hl) (w : World) (hm : l.length ≤ 100000) (h : RdC 4 hlrow w b o l) (h' : RdC 4 hlrow w b' o' l) :
    Calls Tryz.prog 15 #[.slice (some ⟨b, o, none⟩) l.length c, .slice (some ⟨b', o', none⟩) l.length c'] w fun e w' => e = .returned (.bool true) ∧ Nw w w' := by
  have H := Lib.hid (And.intro h h')
  clear h h'
  go_enter Tryz.func15, Tryz.ntmps15
  go_wp2
  go_loopw [5] (fun i wr => ∃ k : Nat, k ≤ l.length ∧ i = .int .i64 k ∧ Nw w wr) (fun i _ => l.length - (intOf i).toNat)
  case atStart => exact ⟨0, Nat.zero_le _, rfl, Nw.refl _⟩
  case round =>
    obtain ⟨k, hk, rfl, hG⟩ := hrel
    by_cases hlt : k < l.length
    · have hce := (H.out.1.nw hG).cell k hlt
      have hde := (H.out.2.nw hG).cell k hlt
      have hki : (k : Int) < (l.length : Int) := by omega
      generalize l[k] = s at *
      obtain ⟨s0, s1, s2, s3⟩ := s
      have c0 := hce 0 _ rfl
      have c1 := hce 1 _ rfl
      have c2 := hce 2 _ rfl
      have c3 := hce 3 _ rfl
      simp only [Nat.add_zero] at c0
      have d0 := hde 0 _ rfl
      have d1 := hde 1 _ rfl
      have d2 := hde 2 _ rfl
      have d3 := hde 3 _ rfl
      simp only [Nat.add_zero] at d0
      clear hce hde
      have HG := Lib.hid hG
      clear hG
      go_wp2_with fail
      go_quiet (fail)
      go_wp2
      go_roundw
      case rel => exact ⟨k + 1, by omega, by go_num, HG.out.drewN _⟩
      case measure => simp [intOf]; omega
    · have HG := Lib.hid hG
      clear hG
      go_wp2
      go_ret
      exact ⟨rfl, HG.out⟩
theorem sameL_none (a a' : Option Addr) (c c' : Nat) (w : World) : Calls Tryz.prog 15 #[.slice a 0 c, .slice a' 0 c'] w fun e w' => e = .returned (.bool true) ∧ Nw w w' := by
  go_enter Tryz.func15, Tryz.ntmps15
  go_wp2
  refine wp_loop_rounds 1 ?_
  repeat (rw [rounds_succ]; go_wp2)
  go_ret
  exact ⟨rfl, Nw.refl _⟩
abbrev HlAt (w : World) (v : Value) (l : List Hl) : Prop := Rd 4 hlrow w v l
theorem HlOwn.rd {w : World} {g0 : Nat} {v : Value} {l : List Hl} (h : HlOwn w g0 v l) : HlAt w v l := Own.rd elemHl.len h
theorem sameL_any (v v' : Value) (l : List Hl) (w : World) (hm : l.length ≤ 100000) (h : HlAt w v l) (h' : HlAt w v' l) : Calls Tryz.prog 15 #[v, v'] w fun e w' => e = .returned (.bool true) ∧ Nw w w' := by
  obtain ⟨a, c, rfl, ⟨rfl, _⟩ | ⟨b, o, rfl, hc⟩⟩ := h
  · obtain ⟨a', c', rfl, _⟩ := h'
    exact sameL_none a a' c c' w
  · obtain ⟨a', c', rfl, ⟨rfl, _⟩ | ⟨b', o', rfl, hc'⟩⟩ := h'
    · exact sameL_none _ a' c c' w
    · exact sameL_rows b o c b' o' c' l w hm hc hc'
/-! ### lives -/
theorem kit_DB (w : World) : Calls Tryz.prog 42 #[] w fun e w' => e = .returned (.agg #[.int .i64 (-1), .int .i64 (-1)]) ∧ Nw w w' := by
  go_enter Tryz.func42, Tryz.ntmps42
  go_wp2
  exact bodyPost_ret (v := .agg #[.int .i64 (-1), .int .i64 (-1)]) (by simp [results, Tryz.results42, go_sem, *]) rfl ⟨rfl, (Nw.refl w).alloc _⟩
theorem caps_law (w : World) : Calls Tryz.prog 40 #[] w fun e w' => e = .returned (.agg #[.int .i64 3, .int .i64 4, .int .i64 8, .int .i64 1]) ∧ Nw w w' := by
  go_enter Tryz.func40, Tryz.ntmps40
  go_wp2
  exact bodyPost_ret (v := .agg #[.int .i64 3, .int .i64 4, .int .i64 8, .int .i64 1]) (by simp [results, Tryz.results40, go_sem, *]) rfl ⟨rfl, (Nw.refl w).alloc _⟩
abbrev lv0 : List (List Hq) := List.replicate 3 []
abbrev lvL : List Bool := List.replicate 8 false
theorem liveT_a1 : askTR 4 lv0 lvL 3 (-1) 1 3 = (0, true, 0) := by kernel_rfl
theorem liveT_a2 : askTR 4 (askTS 4 lv0 lvL 3 (-1) 1 3).1 (askTS 4 lv0 lvL 3 (-1) 1 3).2 (-1) (-1) 1 1 = (1, true, 0) := by kernel_rfl
theorem liveT_h : hdsT (snapT (askTS 4 (askTS 4 lv0 lvL 3 (-1) 1 3).1 (askTS 4 lv0 lvL 3 (-1) 1 3).2 (-1) (-1) 1 1).1) 1 = [⟨1, -1, -1, 1⟩, ⟨1, 3, -1, 3⟩] := by kernel_rfl
theorem live_row (w : World) : HlAt (w.alloc (.cells #[.int .i64 1, .int .i64 (-1), .int .i64 (-1), .int .i64 1, .int .i64 1, .int .i64 3, .int .i64 (-1), .int .i64 3] 44)) (.slice (some ⟨w.heap.size, 0, none⟩) 2 2) [⟨1, -1, -1, 1⟩, ⟨1, 3, -1, 3⟩] := by
  have h := allocAt w (.cells #[.int .i64 1, .int .i64 (-1), .int .i64 (-1), .int .i64 1, .int .i64 1, .int .i64 3, .int .i64 (-1), .int .i64 3] 44)
  exact rd_block (l := ([⟨1, -1, -1, 1⟩, ⟨1, 3, -1, 3⟩] : List Hl)) elemHl.len h 2
/-- A table of the call's own: none of its blocks lies from a to b. -/
structure TaE (w : World) (o S n N k : Nat) (C : Cps) (hss : List (List Hq)) (L : List Bool) (a b : Nat) (W : World) : Prop where
  tab : ∃ J, Tab W o S n N k C hss L J ∧ (∀ j, J j → w.heap.size ≤ j) ∧ ∀ j, a ≤ j → j < b → ¬ J j
  nw : Nw w W
  lt : b ≤ W.heap.size
/-- What lies from a to b stays. -/
def KpA (a b : Nat) (W W' : World) : Prop := ∀ j, a ≤ j → j < b → W'.heap[j]? = W.heap[j]?
theorem KpA.refl (a b : Nat) (W : World) : KpA a b W W := fun _ _ _ => rfl
theorem KpA.trans {a b : Nat} {W W1 W2 : World} (h : KpA a b W W1) (k : KpA a b W1 W2) : KpA a b W W2 := fun j h1 h2 => (k j h1 h2).trans (h j h1 h2)
theorem KpA.nw {a b : Nat} {W W' : World} (g : Nw W W') (h : b ≤ W.heap.size) : KpA a b W W' := fun j _ h2 => g.block j (by omega)
section
variable {w W W' : World} {o S n N k : Nat} {C : Cps} {hss hss' : List (List Hq)} {L L' : List Bool} {a b : Nat}
theorem TaE.step (h : TaE w o S n N k C hss L a b W) (g : Nw W W') : TaE w o S n N k C hss L a b W' := by
  obtain ⟨J, h1, h2, h3⟩ := h.tab
  exact ⟨⟨J, h1.nw g, h2, h3⟩, h.nw.trans g, Nat.le_trans h.lt g.sz⟩
theorem TaE.ok (h : TaE w o S n N k C hss L a b W) : TbOk S n N k hss L := by
  obtain ⟨J, h1, h2, h3⟩ := h.tab
  exact h1.ok
/-- From here on, what was made since W stays. -/
theorem TaE.mark (h : TaE w o S n N k C hss L a b W) (g : Nw W W') : TaE w o S n N k C hss L W.heap.size W'.heap.size W' := by
  obtain ⟨J, h1, h2, h3⟩ := h.tab
  exact ⟨⟨J, h1.nw g, h2, fun j h4 _ h5 => by have := h1.lt j h5; omega⟩, h.nw.trans g, Nat.le_refl _⟩
theorem tae_to {J : Nat → Prop} {k' : Nat} (hw : Nw w W) (h2 : ∀ j, J j → w.heap.size ≤ j) (h3 : ∀ j, a ≤ j → j < b → ¬ J j) (hl : b ≤ W.heap.size) (d : TabTo W o S n N k' C hss' L' J W') : TaE w o S n N k' C hss' L' a b W' ∧ KpA a b W W' := by
  obtain ⟨J', k1, k2, k3⟩ := d
  have hws := hw.sz
  exact ⟨⟨⟨J', k1, fun j e => (k2 j e).elim (h2 j) (fun q => by omega), fun j h4 h5 e => (k2 j e).elim (h3 j h4 h5) (fun q => by omega)⟩, nw_tch hw k3 h2, Nat.le_trans hl k3.size⟩, fun j h4 h5 => k3.block j (by omega) (h3 j h4 h5)⟩
theorem ta_ask (h : TaE w o S n N k C hss L a b W) (hk : k ≤ 800) (hn : n ≤ 64) (hS : S ≤ 16) (t r txn m i : Int) (g : Bool) (E : Int) (hR : askTR n hss L t r txn m = (i, g, E)) :
    Calls Tryz.prog 34 #[.pointer (some ⟨o, 0, none⟩), .agg #[.int .i64 t, .int .i64 r], .int .i64 txn, .int .i64 m] W fun e W' => e = .returned (.tuple #[.int .i64 i, .bool g, .int .i64 E]) ∧ TaE w o S n N (k + 1) C (askTS n hss L t r txn m).1 (askTS n hss L t r txn m).2 a b W' ∧ KpA a b W W' := by
  obtain ⟨J, h1, h2, h3⟩ := h.tab
  refine (ask_t h1 hk hn hS t r txn m).mono ?_
  rintro e W' ⟨e1, d⟩
  rw [hR] at e1
  exact ⟨e1, tae_to h.nw h2 h3 h.lt d⟩
theorem ta_leave (h : TaE w o S n N k C hss L a b W) (hk : k ≤ 800) (hn : n ≤ 64) (hS : 0 < S) (id : Int) (hf : Fit id) (E : Int) (hE : (lvTR hss id).2 = E) :
    Calls Tryz.prog 35 #[.pointer (some ⟨o, 0, none⟩), .int .i64 id] W fun e W' => ∃ vi, e = .returned (.tuple #[vi, .int .i64 E]) ∧ IS W' vi (lvTR hss id).1 ∧ TaE w o S n N (k + 1) C (lvTS hss L id).1 (lvTS hss L id).2 a b W' ∧ KpA a b W W' ∧ ∀ j, vi.ownBlock = some j → W.heap.size ≤ j := by
  obtain ⟨J, h1, h2, h3⟩ := h.tab
  refine (leave_t h1 hk hn hS id hf).mono ?_
  rintro e W' ⟨vi, e1, hi, d, hv⟩
  rw [hE] at e1
  obtain ⟨k1, k2⟩ := tae_to h.nw h2 h3 h.lt d
  exact ⟨vi, e1, hi, k1, k2, hv⟩
theorem ta_abandon (h : TaE w o S n N k C hss L a b W) (hk : k ≤ 800) (hn : n ≤ 64) (hS : 0 < S) (id : Int) (hf : Fit id) (E : Int) (hE : (abTR hss id).2 = E) :
    Calls Tryz.prog 52 #[.pointer (some ⟨o, 0, none⟩), .int .i64 id] W fun e W' => ∃ vi, e = .returned (.tuple #[vi, .int .i64 E]) ∧ IS W' vi (abTR hss id).1 ∧ TaE w o S n N (k + 1) C (abTS hss L id).1 (abTS hss L id).2 a b W' ∧ KpA a b W W' ∧ ∀ j, vi.ownBlock = some j → W.heap.size ≤ j := by
  obtain ⟨J, h1, h2, h3⟩ := h.tab
  refine (abandon_t h1 hk hn hS id hf).mono ?_
  rintro e W' ⟨vi, e1, hi, d, hv⟩
  rw [hE] at e1
  obtain ⟨k1, k2⟩ := tae_to h.nw h2 h3 h.lt d
  exact ⟨vi, e1, hi, k1, k2, hv⟩
theorem ta_upgrade (h : TaE w o S n N k C hss L a b W) (hk : k ≤ 800) (hn : n ≤ 64) (hS : 0 < S) (id x : Int) (hf : Fit id) (g : Bool) (E : Int) (hG : upTG hss id x = g) (hE : upTE hss id x = E) :
    Calls Tryz.prog 48 #[.pointer (some ⟨o, 0, none⟩), .int .i64 id, .int .i64 x] W fun e W' => e = .returned (.tuple #[.bool g, .int .i64 E]) ∧ TaE w o S n N (k + 1) C (upTS hss id x) L a b W' ∧ KpA a b W W' := by
  obtain ⟨J, h1, h2, h3⟩ := h.tab
  refine (upgrade_t h1 hk hn hS id x hf).mono ?_
  rintro e W' ⟨e1, d⟩
  rw [hG, hE] at e1
  exact ⟨e1, tae_to h.nw h2 h3 h.lt d⟩
theorem ta_hand (h : TaE w o S n N k C hss L a b W) (hk : k ≤ 800) (hn : n ≤ 64) (hS : 0 < S) (id x : Int) (hf : Fit id) (E : Int) (hE : hnTE hss id x = E) :
    Calls Tryz.prog 54 #[.pointer (some ⟨o, 0, none⟩), .int .i64 id, .int .i64 x] W fun e W' => e = .returned (.int .i64 E) ∧ TaE w o S n N (k + 1) C (hnTS hss id x) L a b W' ∧ KpA a b W W' := by
  obtain ⟨J, h1, h2, h3⟩ := h.tab
  refine (hand_t h1 hk hn hS id x hf).mono ?_
  rintro e W' ⟨e1, d⟩
  rw [hE] at e1
  exact ⟨e1, tae_to h.nw h2 h3 h.lt d⟩
theorem ta_snap (h : TaE w o S n N k C hss L a b W) (hS : S ≤ 16) (hn : n ≤ 64) : Calls Tryz.prog 13 #[.pointer (some ⟨o, 0, none⟩)] W (HdPost W (snapT hss)) := by
  obtain ⟨J, h1, _⟩ := h.tab
  exact snapshot_t h1 hS hn
theorem ta_all (h : TaE w o S n N k C hss L a b W) (hS : S ≤ 16) (hn : n ≤ 64) : Calls Tryz.prog 18 #[.pointer (some ⟨o, 0, none⟩)] W (HlPost W (allT (snapT hss))) := by
  obtain ⟨J, h1, _⟩ := h.tab
  exact all_t h1 hS hn
theorem ta_holds (h : TaE w o S n N k C hss L a b W) (hS : S ≤ 16) (hn : n ≤ 64) (txn : Int) : Calls Tryz.prog 16 #[.pointer (some ⟨o, 0, none⟩), .int .i64 txn] W (HlPost W (hdsT (snapT hss) txn)) := by
  obtain ⟨J, h1, _⟩ := h.tab
  exact holds_t h1 hS hn txn
theorem ta_counts (h : TaE w o S n N k C hss L a b W) (hS : S ≤ 16) (hn : n ≤ 64) : Calls Tryz.prog 26 #[.pointer (some ⟨o, 0, none⟩)] W fun e W' => e = .returned (.tuple #[.int .i64 (cntT hss), .int .i64 (liv L)]) ∧ Nw W W' := by
  obtain ⟨J, h1, _⟩ := h.tab
  exact counts_t h1 hS hn
theorem ta_stripe (h : TaE w o S n N k C hss L a b W) (t r : Int) : Calls Tryz.prog 20 #[.pointer (some ⟨o, 0, none⟩), .agg #[.int .i64 t, .int .i64 r]] W fun e W' => e = .returned (.int .i64 (ofS t r S)) ∧ Nw W W' := by
  obtain ⟨J, h1, _⟩ := h.tab
  exact stripe_t h1 t r
end
/-- After some calls. -/
def TaS (w : World) (o S n N k : Nat) (C : Cps) (a b : Nat) (W : World) : Prop := ∃ hss L, TaE w o S n N k C hss L a b W
theorem ta_new (w W : World) (g : Nw w W) (S n N : Nat) (p : Int) (h : CapsOk ⟨S, n, N, p⟩) : Calls Tryz.prog 9 #[.agg #[.int .i64 S, .int .i64 n, .int .i64 N, .int .i64 p]] W fun e W' => ∃ o, e = .returned (.tuple #[ptN o, .int .i64 0]) ∧ TaE w o S n N 0 ⟨S, n, N, p⟩ (List.replicate S []) (List.replicate N false) 0 0 W' := by
  refine (newT_d S n N p h W).mono ?_
  rintro e W' ⟨o, J, e1, h1, g2, h2⟩
  exact ⟨o, e1, ⟨⟨J, h1, fun j e => Nat.le_trans g.sz (h2 j e), fun j _ q => by omega⟩, g.trans g2, Nat.zero_le _⟩⟩
set_option maxRecDepth 20000 in
set_option maxHeartbeats 4000000 in
theorem lives_t (W : World) : Calls Tryz.prog 8 #[] W fun e w' => e = .returned (.bool true) ∧ Nw W w' := by
  have HW := Lib.hid (Nw.refl W)
  go_enter Tryz.func8, Tryz.ntmps8
  go_wp2_with fail
  refine (caps_law W).mono ?_
  rintro e w1 ⟨rfl, g1⟩
  have HN := Lib.hid (ta_new W w1 g1 3 4 8 1 (by decide))
  clear g1
  go_wp2_with fail
  refine HN.out.mono ?_
  rintro e w2 ⟨o, rfl, hT⟩
  have H2 := Lib.hid hT
  clear hT HN
  go_wp2_with fail
  refine (kit_T 3 w2).mono ?_
  rintro e w3 ⟨rfl, g3⟩
  have HA := Lib.hid (ta_ask (H2.out.step g3) (by omega) (by omega) (by omega) 3 (-1) 1 3 _ _ _ liveT_a1)
  clear g3 H2
  go_wp2_with fail
  refine HA.out.mono ?_
  rintro e w4 ⟨rfl, hT, _⟩
  have H4 := Lib.hid hT
  clear hT HA
  go_wp2_with fail
  refine (kit_DB w4).mono ?_
  rintro e w5 ⟨rfl, g5⟩
  have HA := Lib.hid (ta_ask (H4.out.step g5) (by omega) (by omega) (by omega) (-1) (-1) 1 1 _ _ _ liveT_a2)
  clear g5 H4
  go_wp2_with fail
  refine HA.out.mono ?_
  rintro e w6 ⟨rfl, hT, _⟩
  have hh := ta_holds hT (by omega) (by omega) 1
  rw [liveT_h] at hh
  have HH := Lib.hid hh
  have H6 := Lib.hid hT.nw
  clear hT HA hh
  go_wp2_with fail
  refine HH.out.mono ?_
  rintro e w7 ⟨v, rfl, hl, g7⟩
  obtain ⟨v0, v1, v2, hv⟩ : ∃ a b c, v = .slice a b c := by
    obtain ⟨a, c, e, _⟩ := HlOwn.rd hl
    exact ⟨_, _, _, e⟩
  subst hv
  have H7 := Lib.hid (And.intro (HlOwn.rd hl) (H6.out.trans g7))
  clear hl g7 HH H6
  go_wp2_with fail
  refine (kit_DB w7).mono ?_
  rintro e w8 ⟨rfl, g8⟩
  have H8 := Lib.hid (And.intro (H7.out.1.nw g8) (H7.out.2.trans g8))
  clear g8 H7
  go_wp2_with fail
  refine (kit_T 3 w8).mono ?_
  rintro e w9 ⟨rfl, g9⟩
  have gA : Nw w9 (w9.alloc (.cells #[.int .i64 1, .int .i64 (-1), .int .i64 (-1), .int .i64 1, .int .i64 1, .int .i64 3, .int .i64 (-1), .int .i64 3] 44)) := (Nw.refl w9).alloc _
  have HS := Lib.hid (sameL_any (.slice v0 v1 v2) (.slice (some ⟨w9.heap.size, 0, none⟩) 2 2) _ _ (by decide) (H8.out.1.nw (g9.trans gA)) (live_row w9))
  have H9 := Lib.hid (H8.out.2.trans (g9.trans gA))
  clear g9 gA H8
  go_wp2_with fail
  refine HS.out.mono ?_
  rintro e w10 ⟨rfl, g10⟩
  have HE := Lib.hid (H9.out.trans g10)
  clear g10 HS H9
  go_wp2
  go_ret
  exact ⟨rfl, HE.out⟩
end Go.Proofs.YtpffldfpabglbaaGreatDoor
end

/- The table laws: a call, whatever it is; what rows keep. -/
section
namespace Go.Proofs.YtpffldfpabglbaaGreatDoor
open Go.RowKit Go.Shelf
set_option linter.unusedVariables false      -- a contract need not use every name

set_option maxHeartbeats 4000000 in
theorem call_t {w W : World} {o S n N k a b : Nat} {C : Cps} (h : TaS w o S n N k C a b W) (hk : k ≤ 800) (hn : n ≤ 64) (hS0 : 0 < S) (hS : S ≤ 16) (a0 a1 a2 a3 a4 a5 : Int) (hf : Fit a3) :
    Calls Tryz.prog 29 #[.pointer (some ⟨o, 0, none⟩), .agg #[.int .i64 a0, .int .i64 a1, .int .i64 a2, .int .i64 a3, .int .i64 a4, .int .i64 a5]] W fun e W' => (∃ v, e = .returned v) ∧ TaS w o S n N (k + 1) C a b W' ∧ KpA a b W W' := by
  obtain ⟨hss, L, h⟩ := h
  have g1 : Nw W (W.alloc (.cells #[.int .i64 a0, .int .i64 a1, .int .i64 a2, .int .i64 a3, .int .i64 a4, .int .i64 a5] 37)) := (Nw.refl W).alloc _
  have hal := allocAt W (.cells #[.int .i64 a0, .int .i64 a1, .int .i64 a2, .int .i64 a3, .int .i64 a4, .int .i64 a5] 37)
  obtain ⟨z, hz⟩ : ∃ z, W.alloc (.cells #[.int .i64 a0, .int .i64 a1, .int .i64 a2, .int .i64 a3, .int .i64 a4, .int .i64 a5] 37) = z := ⟨_, rfl⟩
  rw [hz] at g1 hal
  have HZ := Lib.hid hz
  have H := Lib.hid (h.step g1)
  obtain ⟨⟨i, g, E⟩, hA⟩ : ∃ q, askTR n hss L a1 a2 a4 a5 = q := ⟨_, rfl⟩
  have HA := Lib.hid (ta_ask H.out hk hn hS a1 a2 a4 a5 i g E hA)
  have HU := Lib.hid (ta_upgrade H.out hk hn hS0 a3 a5 hf _ _ rfl rfl)
  have HL := Lib.hid (ta_leave H.out hk hn hS0 a3 hf _ rfl)
  have HB := Lib.hid (ta_abandon H.out hk hn hS0 a3 hf _ rfl)
  have HH := Lib.hid (ta_hand H.out hk hn hS0 a3 a4 hf _ rfl)
  have c0 := hcell (j := 0) hal
  have c1 := hcell (j := 1) hal
  have c2 := hcell (j := 2) hal
  have c3 := hcell (j := 3) hal
  have c4 := hcell (j := 4) hal
  have c5 := hcell (j := 5) hal
  have cl := hlt hal
  have HP := Lib.hid (pick_any a0 6 z (by omega) (by omega))
  obtain ⟨x, hx⟩ : ∃ x, a0 % 6 = x := ⟨_, rfl⟩
  rw [hx] at HP
  have HG := Lib.hid (KpA.nw (a := a) g1 h.lt)
  clear hz g1 hal h hA hf hx hk hn hS hS0
  generalize upTG hss a3 a5 = ug at *
  generalize upTE hss a3 a5 = ue at *
  generalize (lvTR hss a3).2 = le at *
  generalize (abTR hss a3).2 = ae at *
  generalize hnTE hss a3 a4 = he at *
  obtain ⟨d2, e2⟩ : ∃ d, (x == 2) = d := ⟨_, rfl⟩
  obtain ⟨d3, e3⟩ : ∃ d, (x == 3) = d := ⟨_, rfl⟩
  obtain ⟨d4, e4⟩ : ∃ d, (x == 4) = d := ⟨_, rfl⟩
  obtain ⟨d5, e5⟩ : ∃ d, (x == 5) = d := ⟨_, rfl⟩
  go_enter Tryz.func29, Tryz.ntmps29
  go_wp2_with fail
  rw [HZ.out]
  refine HP.out.mono ?_
  rintro e z' ⟨rfl, rfl⟩
  cases d2
  · cases d3
    · cases d4
      · cases d5
        · go_wp2_with fail
          refine HA.out.mono ?_
          rintro e y ⟨rfl, hb, hkp⟩
          have HE := Lib.hid (And.intro (show TaS w o S n N (k + 1) C a b y from ⟨_, _, hb⟩) (HG.out.trans hkp))
          clear hb hkp HA HU HL HB HH H HP HZ
          go_wp2
          exact bodyPost_end (results_none rfl _ _ _) rfl ⟨⟨_, rfl⟩, HE.out⟩
        · go_wp2_with fail
          refine HH.out.mono ?_
          rintro e y ⟨rfl, hb, hkp⟩
          have HE := Lib.hid (And.intro (show TaS w o S n N (k + 1) C a b y from ⟨_, _, hb⟩) (HG.out.trans hkp))
          clear hb hkp HA HU HL HB HH H HP HZ
          go_wp2
          exact bodyPost_end (results_none rfl _ _ _) rfl ⟨⟨_, rfl⟩, HE.out⟩
      · go_wp2_with fail
        refine HB.out.mono ?_
        rintro e y ⟨vi, rfl, _, hb, hkp, _⟩
        have HE := Lib.hid (And.intro (show TaS w o S n N (k + 1) C a b y from ⟨_, _, hb⟩) (HG.out.trans hkp))
        clear hb hkp HA HU HL HB HH H HP HZ
        go_wp2
        exact bodyPost_end (results_none rfl _ _ _) rfl ⟨⟨_, rfl⟩, HE.out⟩
    · go_wp2_with fail
      refine HL.out.mono ?_
      rintro e y ⟨vi, rfl, _, hb, hkp, _⟩
      have HE := Lib.hid (And.intro (show TaS w o S n N (k + 1) C a b y from ⟨_, _, hb⟩) (HG.out.trans hkp))
      clear hb hkp HA HU HL HB HH H HP HZ
      go_wp2
      exact bodyPost_end (results_none rfl _ _ _) rfl ⟨⟨_, rfl⟩, HE.out⟩
  · go_wp2_with fail
    refine HU.out.mono ?_
    rintro e y ⟨rfl, hb, hkp⟩
    have HE := Lib.hid (And.intro (show TaS w o S n N (k + 1) C a b y from ⟨_, _, hb⟩) (HG.out.trans hkp))
    clear hb hkp HA HU HL HB HH H HP HZ
    go_wp2
    exact bodyPost_end (results_none rfl _ _ _) rfl ⟨⟨_, rfl⟩, HE.out⟩
end Go.Proofs.YtpffldfpabglbaaGreatDoor
end

/- Plain facts of buckets: what is asked for, and left at once, leaves names and requests as they were. Of no program. -/
section
namespace Go.Proofs.YtpffldfpabglbaaGreatDoor
set_option linter.unusedVariables false

end Go.Proofs.YtpffldfpabglbaaGreatDoor
end

/- Plain facts of tables: what is rejected, what is asked and left at once. -/
section
namespace Go.Proofs.YtpffldfpabglbaaGreatDoor
set_option linter.unusedVariables false

section
variable {S n N k : Nat} {hss : List (List Hq)} {L : List Bool}
/-- There are no more heads than requests. -/
theorem TbOk.sumq (ok : TbOk S n N k hss L) : ((snapT hss).map fun h => h.q.length).sum = liv L := by
  rw [← ok.inv.count, ← flat_sum]
  exact (ok.snap_srt.2.map _).sum_nat
theorem sum_ge {s : List Hq} (h : ∀ x ∈ s, x.q ≠ []) : s.length ≤ (s.map fun h => h.q.length).sum := by
  induction s with
  | nil => simp
  | cons a t ih =>
    have h1 := ih (fun x hx => h x (List.mem_cons_of_mem _ hx))
    have h2 := List.length_pos_iff.2 (h a (by simp))
    simp only [List.length_cons, List.map_cons, List.sum_cons]
    omega
theorem TbOk.snap_ne (ok : TbOk S n N k hss L) : ∀ h ∈ snapT hss, h.q ≠ [] := fun h hh => by
  obtain ⟨l, hl, h2⟩ := List.mem_flatten.1 (ok.snap_srt.2.mem_iff.1 hh)
  exact (ok.inv.part l hl).ne h h2
theorem TbOk.liv_le (ok : TbOk S n N k hss L) : liv L ≤ N := by
  have : liv L ≤ L.length := List.countP_le_length
  rw [ok.ll] at this
  exact this
theorem TbOk.snap_len (ok : TbOk S n N k hss L) : (snapT hss).length ≤ N := Nat.le_trans (sum_ge ok.snap_ne) (ok.sumq ▸ ok.liv_le)
theorem TbOk.all_len (ok : TbOk S n N k hss L) : (allT (snapT hss)).length ≤ N := by
  rw [(all_perm ok.snap_srt.1 ok.snap_ok).length_eq, ← entF_all]
  exact entF_len (ok.sumq ▸ ok.liv_le)
end
end Go.Proofs.YtpffldfpabglbaaGreatDoor
end

/- TableHolds: plain facts; what a round knows. -/
section
namespace Go.Proofs.YtpffldfpabglbaaGreatDoor.tableHolds
open Go.RowKit Go.Shelf
set_option linter.unusedVariables false      -- a contract need not use every name

theorem wrapS {k n : Nat} (h : k < n) (hn : n ≤ 9223372036854775807) : wrap64 ((k : Int) + 1) = (k : Int) + 1 := by unfold wrap64; omega
theorem wrapA {a b : Nat} (h : a ≤ 100000) (k : b ≤ 100000) : wrap64 ((a : Int) + (b : Int)) = ((a + b : Nat) : Int) := by unfold wrap64; omega
theorem ltS {k n : Nat} (h : k < n) : (k : Int) < (n : Int) := Int.ofNat_lt.2 h
theorem leS {k n : Nat} (h : k ≤ n) : (k : Int) ≤ (n : Int) := Int.ofNat_le.2 h
theorem dLe {D d1 x ql : Nat} (e : d1 + x = D) (h1 : d1 ≤ 128) (h2 : x ≤ ql) (h3 : ql ≤ 1000) : D ≤ 100000 := by omega
theorem ngN (j : Nat) : decide ((j : Int) < 0) = false := by rw [decide_eq_false_iff_not]; omega
theorem geN {j S : Nat} (h : j < S) : decide ((S : Int) ≤ (j : Int)) = false := by rw [decide_eq_false_iff_not]; omega
theorem geM {j S : Nat} (h : j < S) : decide (S ≤ j) = false := by rw [decide_eq_false_iff_not]; omega
theorem ltB {b n : Nat} (h : b ≤ n) : decide ((n : Int) < (b : Int)) = false := by rw [decide_eq_false_iff_not]; omega
theorem ltC {b n : Nat} (h : b ≤ n) : decide (n < b) = false := by rw [decide_eq_false_iff_not]; omega
theorem wrapB {A : Nat} (h : A ≤ 1000) : wrap64 ((A : Int) + 1) = (A : Int) + 1 := by unfold wrap64; omega
/-- The heads' requests up to here. -/
def sumT (s : List Hq) (i : Nat) : Nat := ((s.take i).map fun x => x.q.length).sum
theorem sum_nx {s : List Hq} {i : Nat} (hi : i < s.length) : sumT s (i + 1) = sumT s i + s[i].q.length := by
  unfold sumT
  rw [List.take_succ_eq_append_getElem hi, List.map_append, List.sum_append]
  simp
theorem sum_le (s : List Hq) (i : Nat) : sumT s i ≤ (s.map fun h => h.q.length).sum := sum_take s i
/-- The heads of each stripe up to here. -/
def cntA (s : List Hq) (S i j : Nat) : Nat := (s.take i).countP fun h => ofS h.t h.r S == (j : Int)
def cntsT (s : List Hq) (S i : Nat) : List Int := (List.range S).map fun j => (cntA s S i j : Int)
theorem cnts_len (s : List Hq) (S i : Nat) : (cntsT s S i).length = S := by unfold cntsT; simp
theorem cnts_zero (s : List Hq) (S : Nat) : cntsT s S 0 = List.replicate S 0 := by
  unfold cntsT cntA
  simp [List.map_const']
theorem cnts_at {s : List Hq} {S i j : Nat} (hj : j < S) : (cntsT s S i).getD j 0 = (cntA s S i j : Int) := by
  unfold cntsT
  rw [List.getD_eq_getElem?_getD, List.getElem?_map, List.getElem?_range hj]
  rfl
theorem cnt_nx {s : List Hq} {S i : Nat} (hi : i < s.length) (j : Nat) : cntA s S (i + 1) j = cntA s S i j + (if ofS s[i].t s[i].r S == (j : Int) then 1 else 0) := by
  unfold cntA
  rw [List.take_succ_eq_append_getElem hi, List.countP_append, List.countP_singleton]
theorem cnts_get {s : List Hq} {S i m : Nat} (h : m < (cntsT s S i).length) : (cntsT s S i)[m] = (cntA s S i m : Int) := by simp [cntsT]
theorem cnts_nx {s : List Hq} {S i j : Nat} (hi : i < s.length) (e : ofS s[i].t s[i].r S = (j : Int)) : (cntsT s S i).set j ((cntA s S i j : Int) + 1) = cntsT s S (i + 1) := by
  apply List.ext_getElem
  · rw [List.length_set, cnts_len, cnts_len]
  · intro m h1 h2
    rw [List.getElem_set, cnts_get, cnts_get, cnt_nx hi, e]
    by_cases hm : j = m
    · subst hm; simp
    · rw [if_neg hm]
      have : ((j : Int) == (m : Int)) = false := by rw [beq_eq_false_iff_ne]; omega
      rw [this]
      simp
theorem cnt_le (s : List Hq) (S i j : Nat) : cntA s S i j ≤ s.length := Nat.le_trans List.countP_le_length (by rw [List.length_take]; omega)
theorem cnt_flat1 (f : Hq → Int) : ∀ (hss : List (List Hq)) (off : Int), (∀ i (hi : i < hss.length), ∀ x ∈ hss[i], f x = off + i) → ∀ j : Nat, hss.flatten.countP (fun h => f h == off + (j : Int)) ≤ (hss.getD j []).length
  | [], off, h, j => by simp
  | a :: t, off, h, j => by
    rw [List.flatten_cons, List.countP_append]
    have ht : ∀ i (hi : i < t.length), ∀ x ∈ t[i], f x = (off + 1) + i := fun i hi x hx => by
      have := h (i + 1) (by rw [List.length_cons]; omega) x (by rw [List.getElem_cons_succ]; exact hx)
      rw [this]
      omega
    have ha : ∀ x ∈ a, f x = off := fun x hx => by
      have := h 0 (by rw [List.length_cons]; omega) x (by rw [List.getElem_cons_zero]; exact hx)
      rw [this]
      omega
    cases j with
    | zero =>
      have h2 : t.flatten.countP (fun h => f h == off + ((0 : Nat) : Int)) = 0 := by
        rw [List.countP_eq_zero]
        intro x hx
        obtain ⟨l, hl, hxl⟩ := List.mem_flatten.1 hx
        obtain ⟨i, hi, rfl⟩ := List.getElem_of_mem hl
        have := ht i hi x hxl
        simp only [beq_iff_eq]
        omega
      rw [h2]
      simp only [Nat.add_zero, List.getD_cons_zero]
      exact List.countP_le_length
    | succ j =>
      have h2 : a.countP (fun h => f h == off + ((j + 1 : Nat) : Int)) = 0 := by
        rw [List.countP_eq_zero]
        intro x hx
        have := ha x hx
        simp only [beq_iff_eq]
        omega
      rw [h2, Nat.zero_add, List.getD_cons_succ]
      have := cnt_flat1 f t (off + 1) ht j
      have e : off + 1 + (j : Int) = off + ((j + 1 : Nat) : Int) := by omega
      rw [e] at this
      exact this
section
variable {S n N k : Nat} {hss : List (List Hq)} {L : List Bool}
theorem cnt_end (ok : TbOk S n N k hss L) {j : Nat} (hj : j < S) : cntA (snapT hss) S (snapT hss).length j ≤ n := by
  unfold cntA
  rw [List.take_length, (ok.snap_srt.2).countP_eq]
  have h := cnt_flat1 (fun h => ofS h.t h.r S) hss 0 (fun i hi x hx => by rw [ok.st i hi x hx]; omega) j
  simp only [Int.zero_add] at h
  have hj' : j < hss.length := by rw [ok.sl]; exact hj
  rw [List.getD_eq_getElem?_getD, List.getElem?_eq_getElem hj', Option.getD_some] at h
  exact Nat.le_trans h (ok.inv.part _ (List.getElem_mem hj')).len
theorem head_of (ok : TbOk S n N k hss L) {h : Hq} (hh : h ∈ snapT hss) : (∃ j : Nat, j < S ∧ ofS h.t h.r S = (j : Int)) ∧ okQ h.W h.q = true ∧ scanQ h.q = ([], h.q) := by
  obtain ⟨l, hl, h2⟩ := List.mem_flatten.1 (ok.snap_srt.2.mem_iff.1 hh)
  obtain ⟨i, hi, rfl⟩ := List.getElem_of_mem hl
  have hv := (ok.inv.part _ hl).inv h h2
  exact ⟨⟨i, by rw [← ok.sl]; exact hi, ok.st i hi h h2⟩, (okQ_iff h.W h.q).2 hv.ok, scan_done hv.done⟩
theorem sum_end (ok : TbOk S n N k hss L) : sumT (snapT hss) (snapT hss).length = liv L := by
  unfold sumT
  rw [List.take_length]
  exact ok.sumq
theorem sum_128 (ok : TbOk S n N k hss L) (hN : N ≤ 128) (i : Nat) : sumT (snapT hss) i ≤ 128 := by
  have h1 := sum_le (snapT hss) i
  rw [ok.sumq] at h1
  have := ok.liv_le
  omega
theorem cnt_tab (ok : TbOk S n N k hss L) : cntT hss = (snapT hss).length := by rw [cnt_flat, ok.snap_srt.2.length_eq]
end
/-- Those that hold up to here. -/
def hdT (s : List Hq) (i : Nat) : Nat := (entT (s.take i)).length
def hdQ (q : List Rq) (j : Nat) : Nat := (q.take j).countP fun r => !(r.md == 0)
theorem hd_nx {s : List Hq} {i : Nat} (hi : i < s.length) : hdT s (i + 1) = hdT s i + hdQ s[i].q s[i].q.length := by
  unfold hdT hdQ entT
  rw [List.take_succ_eq_append_getElem hi, List.flatMap_append, List.length_append, List.take_length, List.countP_eq_length_filter]
  simp
theorem hq_nx {q : List Rq} {j : Nat} (hj : j < q.length) : hdQ q (j + 1) = hdQ q j + (if q[j].md == 0 then 0 else 1) := by
  unfold hdQ
  rw [List.take_succ_eq_append_getElem hj, List.countP_append, List.countP_singleton]
  cases q[j].md == 0 <;> rfl
theorem hd_le {s : List Hq} (h : (s.map fun h => h.q.length).sum ≤ 128) (i : Nat) : hdT s i ≤ 128 := by
  unfold hdT
  rw [← entF_all]
  exact entF_len (Nat.le_trans (sum_take s i) h)
theorem hq_le (q : List Rq) (j : Nat) : hdQ q j ≤ q.length := Nat.le_trans List.countP_le_length (by rw [List.length_take]; omega)
/-! ### What a round knows -/
/-- How a name stands to the one before it. -/
def PrevN (y1 : World) (bb oo len k : Nat) (xt xr : Int) : Prop :=
  decide ((0 : Int) < (k : Int)) = false ∨ ∃ (k' : Nat) (t' r' : Int), decide ((0 : Int) < (k : Int)) = true ∧ wrap64 ((k : Int) - 1) = (k' : Int) ∧ IntKind.i64.wrap ((k : Int) - 1) = (k' : Int) ∧ (k' : Int) < (len : Int) ∧
    (∀ z, Nw y1 z → z.cell? ⟨bb, oo + k' * 4, none⟩ = some (.int .i64 t') ∧ z.cell? ⟨bb, oo + k' * 4 + 1, none⟩ = some (.int .i64 r')) ∧
    ∀ z, Nw y1 z → Calls Tryz.prog 32 #[.agg #[.int .i64 t', .int .i64 r'], .agg #[.int .i64 xt, .int .i64 xr]] z fun e w' => e = .returned (.int .i64 (-1)) ∧ Nw z w'
/-- How what is held stands to what is before it. -/
def PrevH (y1 : World) (bb oo len k : Nat) (xx xt xr : Int) : Prop :=
  decide ((0 : Int) < (k : Int)) = false ∨ ∃ (k' : Nat) (x' t' r' : Int), decide ((0 : Int) < (k : Int)) = true ∧ wrap64 ((k : Int) - 1) = (k' : Int) ∧ IntKind.i64.wrap ((k : Int) - 1) = (k' : Int) ∧ (k' : Int) < (len : Int) ∧
    (∀ z, Nw y1 z → z.cell? ⟨bb, oo + k' * 4, none⟩ = some (.int .i64 x') ∧ z.cell? ⟨bb, oo + k' * 4 + 1, none⟩ = some (.int .i64 t') ∧ z.cell? ⟨bb, oo + k' * 4 + 2, none⟩ = some (.int .i64 r')) ∧
    decide (xx < x') = false ∧ ((x' == xx) = false ∨ ((x' == xx) = true ∧
    ∀ z, Nw y1 z → Calls Tryz.prog 32 #[.agg #[.int .i64 t', .int .i64 r'], .agg #[.int .i64 xt, .int .i64 xr]] z fun e w' => e = .returned (.int .i64 (-1)) ∧ Nw z w'))
theorem cmp_nlt {a b : Int × Int} (h : nlt a b) (z : World) : Calls Tryz.prog 32 #[.agg #[.int .i64 a.1, .int .i64 a.2], .agg #[.int .i64 b.1, .int .i64 b.2]] z fun e w' => e = .returned (.int .i64 (-1)) ∧ Nw z w' := by
  obtain ⟨a1, a2⟩ := a
  obtain ⟨b1, b2⟩ := b
  unfold nlt at h
  simp only at h ⊢
  rcases h with h | ⟨rfl, h⟩
  · exact refCmp_lt1 _ _ _ _ z h
  · exact refCmp_lt2 _ _ _ z h
theorem prev_name {y1 : World} {bb oo : Nat} {lm : List Hm} (hc : RdC 4 hmrow y1 bb oo lm) (hs : SrtH (lm.map Hm.h)) (hl : lm.length ≤ 1000) {k : Nat} (hk : k < lm.length) : PrevN y1 bb oo lm.length k lm[k].h.t lm[k].h.r := by
  unfold PrevN
  by_cases h0 : 0 < k
  · obtain ⟨k', rfl⟩ : ∃ k', k = k' + 1 := ⟨k - 1, by omega⟩
    have hk' : k' < lm.length := by omega
    have hn := List.pairwise_iff_getElem.1 hs k' (k' + 1) (by simpa using hk') (by simpa using hk) (Nat.lt_succ_self k')
    simp only [List.getElem_map] at hn
    exact .inr ⟨k', lm[k'].h.t, lm[k'].h.r, by rw [decide_eq_true_eq]; omega, by unfold wrap64; omega, by rw [IntKind.wrap_i64] <;> omega, by omega, fun z g => ⟨(hc.nw g).cell k' hk' 0 _ rfl, (hc.nw g).cell k' hk' 1 _ rfl⟩, fun z g => cmp_nlt hn z⟩
  · exact .inl (by simpa using h0)
theorem prev_held {y1 : World} {bb oo : Nat} {l : List Hl} (hc : RdC 4 hlrow y1 bb oo l) (hs : l.Pairwise hlL) (hl : l.length ≤ 1000) {k : Nat} (hk : k < l.length) : PrevH y1 bb oo l.length k l[k].x l[k].t l[k].r := by
  unfold PrevH
  by_cases h0 : 0 < k
  · obtain ⟨k', rfl⟩ : ∃ k', k = k' + 1 := ⟨k - 1, by omega⟩
    have hk' : k' < l.length := by omega
    have hn := List.pairwise_iff_getElem.1 hs k' (k' + 1) hk' hk (Nat.lt_succ_self k')
    refine .inr ⟨k', l[k'].x, l[k'].t, l[k'].r, by rw [decide_eq_true_eq]; omega, by unfold wrap64; omega, by rw [IntKind.wrap_i64] <;> omega, by omega, fun z g => ⟨(hc.nw g).cell k' hk' 0 _ rfl, (hc.nw g).cell k' hk' 1 _ rfl, (hc.nw g).cell k' hk' 2 _ rfl⟩, ?_⟩
    rcases hn with h | ⟨h, h2⟩
    · exact ⟨by rw [decide_eq_false_iff_not]; omega, .inl (by rw [beq_eq_false_iff_ne]; omega)⟩
    · exact ⟨by rw [decide_eq_false_iff_not]; omega, .inr ⟨by rw [beq_iff_eq]; exact h, fun z g => cmp_nlt h2 z⟩⟩
  · exact .inl (by simpa using h0)
/-- What the calls on a head answer. -/
def HdCalls (y1 : World) (xt xr xW : Int) (xa : Option Addr) (ql xc : Nat) : Prop :=
  (∀ z, Nw y1 z → Calls Tryz.prog 30 #[.agg #[.int .i64 xt, .int .i64 xr, .slice xa ql xc, .int .i64 xW]] z fun e w' => ∃ a n u c, e = .returned (.tuple #[.agg #[.int .i64 xt, .int .i64 xr, .slice a ql n, .int .i64 xW], .slice u 0 c]) ∧ Nw z w') ∧
  (∀ z, Nw y1 z → Calls Tryz.prog 31 #[.agg #[.int .i64 xt, .int .i64 xr, .slice xa ql xc, .int .i64 xW]] z fun e w' => e = .returned (.int .i64 0) ∧ Nw z w')
theorem head_calls {y1 : World} {x : Hm} (h : RqAt y1 (hmV x) x.h.q) (hl : x.h.q.length ≤ 1000) (h1 : okQ x.h.W x.h.q = true) (h2 : scanQ x.h.q = ([], x.h.q)) : HdCalls y1 x.h.t x.h.r x.h.W x.a x.h.q.length x.c := by
  refine ⟨fun z g => ?_, fun z g => ?_⟩
  · refine (r9scan x.h.t x.h.r x.h.W (hmV x) x.h.q z hl ((okQ_iff _ _).1 h1) (h.nw g)).mono ?_
    rw [h2]
    rintro e y2 ⟨v4, vi, rfl, g2, hr4, _, hi4⟩
    obtain ⟨a4, n4, rfl⟩ := hr4.form
    obtain ⟨a5, c5, e5, _⟩ := hi4.box
    subst e5
    exact ⟨a4, n4, a5, c5, rfl, g2⟩
  · have := r9check x.h.t x.h.r x.h.W (hmV x) x.h.q z hl (h.nw g)
    rw [if_pos h1] at this
    exact this
/-- How two that are held stand to one another. -/
theorem held_two {s : List Hq} (h : SrtH s) (ok : ∀ h ∈ s, Ok h.W h.q) {j i : Nat} (hj : j < i) (hi : i < (allT s).length) : ((allT s)[j].t = (allT s)[i].t ∧ (allT s)[j].r = (allT s)[i].r) → cpI (allT s)[j].m (allT s)[i].m = true := fun e => by
  have p := all_perm h ok
  have hs := List.pairwise_iff_getElem.1 (all_srt h) j i (by omega) hi hj
  refine ent_cp h ok (p.mem_iff.1 (List.getElem_mem _)) (p.mem_iff.1 (List.getElem_mem _)) e ?_
  intro q
  rcases hs with h1 | ⟨_, h1⟩
  · omega
  · unfold nlt at h1
    simp only at h1
    omega
/-- What a head's cells hold. -/
def HdCells (y1 : World) (bb oo k : Nat) (xt xr xW : Int) (xa : Option Addr) (ql xc : Nat) : Prop :=
  (∀ z, Nw y1 z → z.cell? ⟨bb, oo + k * 4, none⟩ = some (.int .i64 xt)) ∧ (∀ z, Nw y1 z → z.cell? ⟨bb, oo + k * 4 + 1, none⟩ = some (.int .i64 xr)) ∧ (∀ z, Nw y1 z → z.cell? ⟨bb, oo + k * 4 + 2, none⟩ = some (.slice xa ql xc)) ∧ (∀ z, Nw y1 z → z.cell? ⟨bb, oo + k * 4 + 3, none⟩ = some (.int .i64 xW))
theorem rnd {S n N k : Nat} {hss : List (List Hq)} {L : List Bool} (ok : TbOk S n N k hss L) (hN : N ≤ 128) {y1 : World} {lm : List Hm} {a0 : Option Addr} {c0 : Nat} (hr : Rd 4 hmrow y1 (.slice a0 lm.length c0) lm) (hq : ∀ x ∈ lm, RqAt y1 (hmV x) x.h.q ∧ x.h.q.length ≤ 1000) (he : lm.map Hm.h = snapT hss) {i : Nat} (hi : i < lm.length) :
    ∃ (bb oo : Nat) (xt xr xW : Int) (xa : Option Addr) (q : List Rq) (ql xc j A : Nat), a0 = some ⟨bb, oo, none⟩ ∧ q.length = ql ∧ ql ≤ 1000 ∧ wrap64 ((sumT (snapT hss) i : Int) + (ql : Int)) = ((sumT (snapT hss) (i + 1) : Nat) : Int) ∧ hdT (snapT hss) (i + 1) = hdT (snapT hss) i + hdQ q ql ∧ hdT (snapT hss) i ≤ 128 ∧
      j < S ∧ ofS xt xr S = (j : Int) ∧ (cntsT (snapT hss) S i).set j ((A : Int) + 1) = cntsT (snapT hss) S (i + 1) ∧ (cntsT (snapT hss) S i).getD j 0 = (A : Int) ∧ A ≤ 1000 ∧
      (i : Int) < (lm.length : Int) ∧ wrap64 ((i : Int) + 1) = (i : Int) + 1 ∧
      HdCells y1 bb oo i xt xr xW xa ql xc ∧ HdCalls y1 xt xr xW xa ql xc ∧ PrevN y1 bb oo lm.length i xt xr ∧ RqAt y1 (.slice xa ql xc) q := by
  obtain ⟨a', c', e, ⟨q, _⟩ | ⟨bb, oo, e2, hc⟩⟩ := hr
  · rw [q] at hi; simp at hi
  subst e2
  cases e
  have hlen : lm.length = (snapT hss).length := by rw [← he, List.length_map]
  have his : i < (snapT hss).length := by omega
  have hhe : (snapT hss)[i] = lm[i].h := by
    have : (lm.map Hm.h)[i]'(by rw [List.length_map]; exact hi) = (snapT hss)[i] := by congr 1
    rw [← this, List.getElem_map]
  have hx := hq _ (List.getElem_mem hi)
  have hmem : lm[i].h ∈ snapT hss := by rw [← hhe]; exact List.getElem_mem his
  obtain ⟨⟨j, hj, hof⟩, h1, h2⟩ := head_of ok hmem
  have hle := ok.snap_len
  have hs1 := sum_128 ok hN (i + 1)
  have hs2 := sum_nx his
  have hcn := cnts_nx (S := S) (j := j) his (by rw [hhe]; exact hof)
  have hhd := hd_nx his
  rw [hhe] at hs2 hhd
  have hcl := cnt_le (snapT hss) S i j
  have hcs := fun z (g : Nw y1 z) => (hc.nw g).cell i hi
  refine ⟨bb, oo, lm[i].h.t, lm[i].h.r, lm[i].h.W, lm[i].a, lm[i].h.q, lm[i].h.q.length, lm[i].c, j, cntA (snapT hss) S i j, rfl, rfl, hx.2, ?_, hhd, hd_le (by rw [ok.sumq]; exact Nat.le_trans ok.liv_le hN) i, hj, hof, hcn, cnts_at hj, by omega, ltS hi, by unfold wrap64; omega, ⟨fun z g => hcs z g 0 _ rfl, fun z g => hcs z g 1 _ rfl, fun z g => hcs z g 2 _ rfl, fun z g => hcs z g 3 _ rfl⟩, head_calls hx.1 hx.2 h1 h2, prev_name hc (by rw [he]; exact ok.snap_srt.1) (by omega) hi, hx.1⟩
  unfold wrap64
  omega
theorem rq_at {y1 : World} {xa : Option Addr} {q : List Rq} {ql xc : Nat} (h : RqAt y1 (.slice xa ql xc) q) (e : q.length = ql) {j : Nat} (hj : j < ql) :
    ∃ (bb oo : Nat) (md : Int), xa = some ⟨bb, oo, none⟩ ∧ (∀ z, Nw y1 z → z.cell? ⟨bb, oo + j * 5 + 2, none⟩ = some (.int .i64 md)) ∧ hdQ q (j + 1) = hdQ q j + (if md == 0 then 0 else 1) := by
  obtain ⟨a6, c6, e6, ⟨q6, _⟩ | ⟨b', o', e7, hc6⟩⟩ := h
  · rw [← e, q6] at hj; simp at hj
  subst e7
  injection e6 with e6 _ _
  have hj2 : j < q.length := by rw [e]; exact hj
  exact ⟨b', o', q[j].md, e6, fun z g => (hc6.nw g).cell j hj2 2 _ rfl, hq_nx hj2⟩
theorem held_at {s : List Hq} (h : SrtH s) (ok : ∀ h ∈ s, Ok h.W h.q) {y2 : World} {a0 : Option Addr} {nn c0 : Nat} (hr : Rd 4 hlrow y2 (.slice a0 nn c0) (allT s)) (e : (allT s).length = nn) (h1 : nn ≤ 1000) {i : Nat} (hi : i < nn) :
    ∃ (bb oo : Nat) (xx xt xr xm : Int), a0 = some ⟨bb, oo, none⟩ ∧ (∀ z, Nw y2 z → z.cell? ⟨bb, oo + i * 4, none⟩ = some (.int .i64 xx)) ∧ (∀ z, Nw y2 z → z.cell? ⟨bb, oo + i * 4 + 1, none⟩ = some (.int .i64 xt)) ∧ (∀ z, Nw y2 z → z.cell? ⟨bb, oo + i * 4 + 2, none⟩ = some (.int .i64 xr)) ∧ (∀ z, Nw y2 z → z.cell? ⟨bb, oo + i * 4 + 3, none⟩ = some (.int .i64 xm)) ∧ PrevH y2 bb oo nn i xx xt xr ∧
      ∀ j, j < i → ∃ t' r' m' : Int, (∀ z, Nw y2 z → z.cell? ⟨bb, oo + j * 4 + 1, none⟩ = some (.int .i64 t')) ∧ (∀ z, Nw y2 z → z.cell? ⟨bb, oo + j * 4 + 2, none⟩ = some (.int .i64 r')) ∧ (∀ z, Nw y2 z → z.cell? ⟨bb, oo + j * 4 + 3, none⟩ = some (.int .i64 m')) ∧ (j : Int) < (nn : Int) ∧ (j : Int) < (i : Int) ∧ wrap64 ((j : Int) + 1) = (j : Int) + 1 ∧
        (t' ≠ xt ∨ (t' = xt ∧ r' ≠ xr) ∨ (t' = xt ∧ r' = xr ∧ cpI m' xm = true)) := by
  obtain ⟨a', c', e2, ⟨q, _⟩ | ⟨bb, oo, e3, hc⟩⟩ := hr
  · rw [q] at e; simp only [List.length_nil] at e; omega
  subst e3
  injection e2 with e2 e4 e5
  subst e2
  have hi2 : i < (allT s).length := by omega
  have hph := prev_held hc (all_srt h) (by omega) hi2
  rw [e] at hph
  refine ⟨bb, oo, _, _, _, _, rfl, fun z g => (hc.nw g).cell i hi2 0 _ rfl, fun z g => (hc.nw g).cell i hi2 1 _ rfl, fun z g => (hc.nw g).cell i hi2 2 _ rfl, fun z g => (hc.nw g).cell i hi2 3 _ rfl, hph, fun j hj => ?_⟩
  have hj2 : j < (allT s).length := by omega
  refine ⟨(allT s)[j].t, (allT s)[j].r, (allT s)[j].m, fun z g => (hc.nw g).cell j hj2 1 _ rfl, fun z g => (hc.nw g).cell j hj2 2 _ rfl, fun z g => (hc.nw g).cell j hj2 3 _ rfl, by omega, by omega, by unfold wrap64; omega, ?_⟩
  by_cases q1 : (allT s)[j].t = (allT s)[i].t
  · by_cases q2 : (allT s)[j].r = (allT s)[i].r
    · exact .inr (.inr ⟨q1, q2, held_two h ok hj hi2 ⟨q1, q2⟩⟩)
    · exact .inr (.inl ⟨q1, q2⟩)
  · exact .inl q1
end Go.Proofs.YtpffldfpabglbaaGreatDoor.tableHolds
end
