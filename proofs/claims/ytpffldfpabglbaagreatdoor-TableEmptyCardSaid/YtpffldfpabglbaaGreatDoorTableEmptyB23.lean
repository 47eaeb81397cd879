/- Texts merged: TbW, TbY, TbG, TcA, TcD, TcE, TcF -/
import Derived.Test.YtpffldfpabglbaaGreatDoorTableEmptyB22

/- The table laws: Same of what is held; lives; call. -/
section
namespace Go.Proofs.YtpffldfpabglbaaGreatDoor
open Go.RowKit Go.Shelf
set_option linter.unusedVariables false      -- a contract need not use every name

set_option maxRecDepth 100000 in
set_option maxHeartbeats 2000000 in
theorem sameL_rows (b o c b' o' c' : Nat) (l : List Hl) (w : World) (hm : l.length ≤ 100000) (h : RdC 4 hlrow w b o l) (h' : RdC 4 hlrow w b' o' l) :
    Calls Tryz.prog 15 #[.slice (some ⟨b, o, none⟩) l.length c, .slice (some ⟨b', o', none⟩) l.length c'] w fun e w' => e = .returned (.bool true) ∧ Nw w w' := by
  have H := Lib.hid (And.intro h h')
  clear h h'
  go_enter Tryz.func15, Tryz.ntmps15
  go_wp2
  go_loopw [5] (fun i wr => ∃ k : Nat, k ≤ l.length ∧ i = .int .i64 k ∧ Nw w wr) (fun i _ => l.length - (intOf i).toNat)
  case atStart => exact ⟨0, Nat.zero_le _, rfl, Nw.refl _⟩
  case round =>
    obtain ⟨k, hk, rfl, hG⟩ := hrel
    by_cases hlt : k < l.length
    · have hce := (H.out.1.nw hG).cell k hlt
      have hde := (H.out.2.nw hG).cell k hlt
      have hki : (k : Int) < (l.length : Int) := by omega
      generalize l[k] = s at *
      obtain ⟨s0, s1, s2, s3⟩ := s
      have c0 := hce 0 _ rfl
      have c1 := hce 1 _ rfl
      have c2 := hce 2 _ rfl
      have c3 := hce 3 _ rfl
      simp only [Nat.add_zero] at c0
      have d0 := hde 0 _ rfl
      have d1 := hde 1 _ rfl
      have d2 := hde 2 _ rfl
      have d3 := hde 3 _ rfl
      simp only [Nat.add_zero] at d0
      clear hce hde
      have HG := Lib.hid hG
      clear hG
      go_wp2_with fail
      go_quiet (fail)
      go_wp2
      go_roundw
      case rel => exact ⟨k + 1, by omega, by go_num, HG.out.drewN _⟩
      case measure => simp [intOf]; omega
    · have HG := Lib.hid hG
      clear hG
      go_wp2
      go_ret
      exact ⟨rfl, HG.out⟩
theorem sameL_none (a a' : Option Addr) (c c' : Nat) (w : World) : Calls Tryz.prog 15 #[.slice a 0 c, .slice a' 0 c'] w fun e w' => e = .returned (.bool true) ∧ Nw w w' := by
  go_enter Tryz.func15, Tryz.ntmps15
  go_wp2
  refine wp_loop_rounds 1 ?_
  repeat (rw [rounds_succ]; go_wp2)
  go_ret
  exact ⟨rfl, Nw.refl _⟩
abbrev HlAt (w : World) (v : Value) (l : List Hl) : Prop := Rd 4 hlrow w v l
theorem HlOwn.rd {w : World} {g0 : Nat} {v : Value} {l : List Hl} (h : HlOwn w g0 v l) : HlAt w v l := Own.rd elemHl.len h
theorem sameL_any (v v' : Value) (l : List Hl) (w : World) (hm : l.length ≤ 100000) (h : HlAt w v l) (h' : HlAt w v' l) : Calls Tryz.prog 15 #[v, v'] w fun e w' => e = .returned (.bool true) ∧ Nw w w' := by
  obtain ⟨a, c, rfl, ⟨rfl, _⟩ | ⟨b, o, rfl, hc⟩⟩ := h
  · obtain ⟨a', c', rfl, _⟩ := h'
    exact sameL_none a a' c c' w
  · obtain ⟨a', c', rfl, ⟨rfl, _⟩ | ⟨b', o', rfl, hc'⟩⟩ := h'
    · exact sameL_none _ a' c c' w
    · exact sameL_rows b o c b' o' c' l w hm hc hc'
/-! ### lives -/
theorem kit_DB (w : World) : Calls Tryz.prog 42 #[] w fun e w' => e = .returned (.agg #[.int .i64 (-1), .int .i64 (-1)]) ∧ Nw w w' := by
  go_enter Tryz.func42, Tryz.ntmps42
  go_wp2
  exact bodyPost_ret (v := .agg #[.int .i64 (-1), .int .i64 (-1)]) (by simp [results, Tryz.results42, go_sem, *]) rfl ⟨rfl, (Nw.refl w).alloc _⟩
theorem caps_law (w : World) : Calls Tryz.prog 40 #[] w fun e w' => e = .returned (.agg #[.int .i64 3, .int .i64 4, .int .i64 8, .int .i64 1]) ∧ Nw w w' := by
  go_enter Tryz.func40, Tryz.ntmps40
  go_wp2
  exact bodyPost_ret (v := .agg #[.int .i64 3, .int .i64 4, .int .i64 8, .int .i64 1]) (by simp [results, Tryz.results40, go_sem, *]) rfl ⟨rfl, (Nw.refl w).alloc _⟩
abbrev lv0 : List (List Hq) := List.replicate 3 []
abbrev lvL : List Bool := List.replicate 8 false
theorem liveT_a1 : askTR 4 lv0 lvL 3 (-1) 1 3 = (0, true, 0) := by kernel_rfl
theorem liveT_a2 : askTR 4 (askTS 4 lv0 lvL 3 (-1) 1 3).1 (askTS 4 lv0 lvL 3 (-1) 1 3).2 (-1) (-1) 1 1 = (1, true, 0) := by kernel_rfl
theorem liveT_h : hdsT (snapT (askTS 4 (askTS 4 lv0 lvL 3 (-1) 1 3).1 (askTS 4 lv0 lvL 3 (-1) 1 3).2 (-1) (-1) 1 1).1) 1 = [⟨1, -1, -1, 1⟩, ⟨1, 3, -1, 3⟩] := by kernel_rfl
theorem live_row (w : World) : HlAt (w.alloc (.cells #[.int .i64 1, .int .i64 (-1), .int .i64 (-1), .int .i64 1, .int .i64 1, .int .i64 3, .int .i64 (-1), .int .i64 3] 44)) (.slice (some ⟨w.heap.size, 0, none⟩) 2 2) [⟨1, -1, -1, 1⟩, ⟨1, 3, -1, 3⟩] := by
  have h := allocAt w (.cells #[.int .i64 1, .int .i64 (-1), .int .i64 (-1), .int .i64 1, .int .i64 1, .int .i64 3, .int .i64 (-1), .int .i64 3] 44)
  exact rd_block (l := ([⟨1, -1, -1, 1⟩, ⟨1, 3, -1, 3⟩] : List Hl)) elemHl.len h 2
/-- A table of the call's own: none of its blocks lies from a to b. -/
structure TaE (w : World) (o S n N k : Nat) (C : Cps) (hss : List (List Hq)) (L : List Bool) (a b : Nat) (W : World) : Prop where
  tab : ∃ J, Tab W o S n N k C hss L J ∧ (∀ j, J j → w.heap.size ≤ j) ∧ ∀ j, a ≤ j → j < b → ¬ J j
  nw : Nw w W
  lt : b ≤ W.heap.size
/-- What lies from a to b stays. -/
def KpA (a b : Nat) (W W' : World) : Prop := ∀ j, a ≤ j → j < b → W'.heap[j]? = W.heap[j]?
theorem KpA.refl (a b : Nat) (W : World) : KpA a b W W := fun _ _ _ => rfl
theorem KpA.trans {a b : Nat} {W W1 W2 : World} (h : KpA a b W W1) (k : KpA a b W1 W2) : KpA a b W W2 := fun j h1 h2 => (k j h1 h2).trans (h j h1 h2)
theorem KpA.nw {a b : Nat} {W W' : World} (g : Nw W W') (h : b ≤ W.heap.size) : KpA a b W W' := fun j _ h2 => g.block j (by omega)
section
variable {w W W' : World} {o S n N k : Nat} {C : Cps} {hss hss' : List (List Hq)} {L L' : List Bool} {a b : Nat}
theorem TaE.step (h : TaE w o S n N k C hss L a b W) (g : Nw W W') : TaE w o S n N k C hss L a b W' := by
  obtain ⟨J, h1, h2, h3⟩ := h.tab
  exact ⟨⟨J, h1.nw g, h2, h3⟩, h.nw.trans g, Nat.le_trans h.lt g.sz⟩
theorem TaE.ok (h : TaE w o S n N k C hss L a b W) : TbOk S n N k hss L := by
  obtain ⟨J, h1, h2, h3⟩ := h.tab
  exact h1.ok
/-- From here on, what was made since W stays. -/
theorem TaE.mark (h : TaE w o S n N k C hss L a b W) (g : Nw W W') : TaE w o S n N k C hss L W.heap.size W'.heap.size W' := by
  obtain ⟨J, h1, h2, h3⟩ := h.tab
  exact ⟨⟨J, h1.nw g, h2, fun j h4 _ h5 => by have := h1.lt j h5; omega⟩, h.nw.trans g, Nat.le_refl _⟩
theorem tae_to {J : Nat → Prop} {k' : Nat} (hw : Nw w W) (h2 : ∀ j, J j → w.heap.size ≤ j) (h3 : ∀ j, a ≤ j → j < b → ¬ J j) (hl : b ≤ W.heap.size) (d : TabTo W o S n N k' C hss' L' J W') : TaE w o S n N k' C hss' L' a b W' ∧ KpA a b W W' := by
  obtain ⟨J', k1, k2, k3⟩ := d
  have hws := hw.sz
  exact ⟨⟨⟨J', k1, fun j e => (k2 j e).elim (h2 j) (fun q => by omega), fun j h4 h5 e => (k2 j e).elim (h3 j h4 h5) (fun q => by omega)⟩, nw_tch hw k3 h2, Nat.le_trans hl k3.size⟩, fun j h4 h5 => k3.block j (by omega) (h3 j h4 h5)⟩
theorem ta_ask (h : TaE w o S n N k C hss L a b W) (hk : k ≤ 800) (hn : n ≤ 64) (hS : S ≤ 16) (t r txn m i : Int) (g : Bool) (E : Int) (hR : askTR n hss L t r txn m = (i, g, E)) :
    Calls Tryz.prog 34 #[.pointer (some ⟨o, 0, none⟩), .agg #[.int .i64 t, .int .i64 r], .int .i64 txn, .int .i64 m] W fun e W' => e = .returned (.tuple #[.int .i64 i, .bool g, .int .i64 E]) ∧ TaE w o S n N (k + 1) C (askTS n hss L t r txn m).1 (askTS n hss L t r txn m).2 a b W' ∧ KpA a b W W' := by
  obtain ⟨J, h1, h2, h3⟩ := h.tab
  refine (ask_t h1 hk hn hS t r txn m).mono ?_
  rintro e W' ⟨e1, d⟩
  rw [hR] at e1
  exact ⟨e1, tae_to h.nw h2 h3 h.lt d⟩
theorem ta_leave (h : TaE w o S n N k C hss L a b W) (hk : k ≤ 800) (hn : n ≤ 64) (hS : 0 < S) (id : Int) (hf : Fit id) (E : Int) (hE : (lvTR hss id).2 = E) :
    Calls Tryz.prog 35 #[.pointer (some ⟨o, 0, none⟩), .int .i64 id] W fun e W' => ∃ vi, e = .returned (.tuple #[vi, .int .i64 E]) ∧ IS W' vi (lvTR hss id).1 ∧ TaE w o S n N (k + 1) C (lvTS hss L id).1 (lvTS hss L id).2 a b W' ∧ KpA a b W W' ∧ ∀ j, vi.ownBlock = some j → W.heap.size ≤ j := by
  obtain ⟨J, h1, h2, h3⟩ := h.tab
  refine (leave_t h1 hk hn hS id hf).mono ?_
  rintro e W' ⟨vi, e1, hi, d, hv⟩
  rw [hE] at e1
  obtain ⟨k1, k2⟩ := tae_to h.nw h2 h3 h.lt d
  exact ⟨vi, e1, hi, k1, k2, hv⟩
theorem ta_abandon (h : TaE w o S n N k C hss L a b W) (hk : k ≤ 800) (hn : n ≤ 64) (hS : 0 < S) (id : Int) (hf : Fit id) (E : Int) (hE : (abTR hss id).2 = E) :
    Calls Tryz.prog 52 #[.pointer (some ⟨o, 0, none⟩), .int .i64 id] W fun e W' => ∃ vi, e = .returned (.tuple #[vi, .int .i64 E]) ∧ IS W' vi (abTR hss id).1 ∧ TaE w o S n N (k + 1) C (abTS hss L id).1 (abTS hss L id).2 a b W' ∧ KpA a b W W' ∧ ∀ j, vi.ownBlock = some j → W.heap.size ≤ j := by
  obtain ⟨J, h1, h2, h3⟩ := h.tab
  refine (abandon_t h1 hk hn hS id hf).mono ?_
  rintro e W' ⟨vi, e1, hi, d, hv⟩
  rw [hE] at e1
  obtain ⟨k1, k2⟩ := tae_to h.nw h2 h3 h.lt d
  exact ⟨vi, e1, hi, k1, k2, hv⟩
theorem ta_upgrade (h : TaE w o S n N k C hss L a b W) (hk : k ≤ 800) (hn : n ≤ 64) (hS : 0 < S) (id x : Int) (hf : Fit id) (g : Bool) (E : Int) (hG : upTG hss id x = g) (hE : upTE hss id x = E) :
    Calls Tryz.prog 48 #[.pointer (some ⟨o, 0, none⟩), .int .i64 id, .int .i64 x] W fun e W' => e = .returned (.tuple #[.bool g, .int .i64 E]) ∧ TaE w o S n N (k + 1) C (upTS hss id x) L a b W' ∧ KpA a b W W' := by
  obtain ⟨J, h1, h2, h3⟩ := h.tab
  refine (upgrade_t h1 hk hn hS id x hf).mono ?_
  rintro e W' ⟨e1, d⟩
  rw [hG, hE] at e1
  exact ⟨e1, tae_to h.nw h2 h3 h.lt d⟩
theorem ta_hand (h : TaE w o S n N k C hss L a b W) (hk : k ≤ 800) (hn : n ≤ 64) (hS : 0 < S) (id x : Int) (hf : Fit id) (E : Int) (hE : hnTE hss id x = E) :
    Calls Tryz.prog 54 #[.pointer (some ⟨o, 0, none⟩), .int .i64 id, .int .i64 x] W fun e W' => e = .returned (.int .i64 E) ∧ TaE w o S n N (k + 1) C (hnTS hss id x) L a b W' ∧ KpA a b W W' := by
  obtain ⟨J, h1, h2, h3⟩ := h.tab
  refine (hand_t h1 hk hn hS id x hf).mono ?_
  rintro e W' ⟨e1, d⟩
  rw [hE] at e1
  exact ⟨e1, tae_to h.nw h2 h3 h.lt d⟩
theorem ta_snap (h : TaE w o S n N k C hss L a b W) (hS : S ≤ 16) (hn : n ≤ 64) : Calls Tryz.prog 13 #[.pointer (some ⟨o, 0, none⟩)] W (HdPost W (snapT hss)) := by
  obtain ⟨J, h1, _⟩ := h.tab
  exact snapshot_t h1 hS hn
theorem ta_all (h : TaE w o S n N k C hss L a b W) (hS : S ≤ 16) (hn : n ≤ 64) : Calls Tryz.prog 18 #[.pointer (some ⟨o, 0, none⟩)] W (HlPost W (allT (snapT hss))) := by
  obtain ⟨J, h1, _⟩ := h.tab
  exact all_t h1 hS hn
theorem ta_holds (h : TaE w o S n N k C hss L a b W) (hS : S ≤ 16) (hn : n ≤ 64) (txn : Int) : Calls Tryz.prog 16 #[.pointer (some ⟨o, 0, none⟩), .int .i64 txn] W (HlPost W (hdsT (snapT hss) txn)) := by
  obtain ⟨J, h1, _⟩ := h.tab
  exact holds_t h1 hS hn txn
theorem ta_counts (h : TaE w o S n N k C hss L a b W) (hS : S ≤ 16) (hn : n ≤ 64) : Calls Tryz.prog 26 #[.pointer (some ⟨o, 0, none⟩)] W fun e W' => e = .returned (.tuple #[.int .i64 (cntT hss), .int .i64 (liv L)]) ∧ Nw W W' := by
  obtain ⟨J, h1, _⟩ := h.tab
  exact counts_t h1 hS hn
theorem ta_get (h : TaE w o S n N k C hss L a b W) (hS : 0 < S) (id : Int) (hf : Fit id) (t r b0 b1 b2 b3 b4 : Int) (y : Bool) (hR : getTD hss id = (t, r, ⟨b0, b1, b2, b3, b4⟩, y)) :
    Calls Tryz.prog 22 #[.pointer (some ⟨o, 0, none⟩), .int .i64 id] W fun e W' => e = .returned (.tuple #[.agg #[.int .i64 t, .int .i64 r], .agg #[.int .i64 b0, .int .i64 b1, .int .i64 b2, .int .i64 b3, .int .i64 b4], .bool y]) ∧ Nw W W' := by
  obtain ⟨J, h1, _⟩ := h.tab
  exact get_t h1 hS id hf t r b0 b1 b2 b3 b4 y hR
end
/-- After some calls. -/
def TaS (w : World) (o S n N k : Nat) (C : Cps) (a b : Nat) (W : World) : Prop := ∃ hss L, TaE w o S n N k C hss L a b W
theorem ta_new (w W : World) (g : Nw w W) (S n N : Nat) (p : Int) (h : CapsOk ⟨S, n, N, p⟩) : Calls Tryz.prog 9 #[.agg #[.int .i64 S, .int .i64 n, .int .i64 N, .int .i64 p]] W fun e W' => ∃ o, e = .returned (.tuple #[ptN o, .int .i64 0]) ∧ TaE w o S n N 0 ⟨S, n, N, p⟩ (List.replicate S []) (List.replicate N false) 0 0 W' := by
  refine (newT_d S n N p h W).mono ?_
  rintro e W' ⟨o, J, e1, h1, g2, h2⟩
  exact ⟨o, e1, ⟨⟨J, h1, fun j e => Nat.le_trans g.sz (h2 j e), fun j _ q => by omega⟩, g.trans g2, Nat.zero_le _⟩⟩
set_option maxRecDepth 20000 in
set_option maxHeartbeats 4000000 in
theorem lives_t (W : World) : Calls Tryz.prog 8 #[] W fun e w' => e = .returned (.bool true) ∧ Nw W w' := by
  have HW := Lib.hid (Nw.refl W)
  go_enter Tryz.func8, Tryz.ntmps8
  go_wp2_with fail
  refine (caps_law W).mono ?_
  rintro e w1 ⟨rfl, g1⟩
  have HN := Lib.hid (ta_new W w1 g1 3 4 8 1 (by decide))
  clear g1
  go_wp2_with fail
  refine HN.out.mono ?_
  rintro e w2 ⟨o, rfl, hT⟩
  have H2 := Lib.hid hT
  clear hT HN
  go_wp2_with fail
  refine (kit_T 3 w2).mono ?_
  rintro e w3 ⟨rfl, g3⟩
  have HA := Lib.hid (ta_ask (H2.out.step g3) (by omega) (by omega) (by omega) 3 (-1) 1 3 _ _ _ liveT_a1)
  clear g3 H2
  go_wp2_with fail
  refine HA.out.mono ?_
  rintro e w4 ⟨rfl, hT, _⟩
  have H4 := Lib.hid hT
  clear hT HA
  go_wp2_with fail
  refine (kit_DB w4).mono ?_
  rintro e w5 ⟨rfl, g5⟩
  have HA := Lib.hid (ta_ask (H4.out.step g5) (by omega) (by omega) (by omega) (-1) (-1) 1 1 _ _ _ liveT_a2)
  clear g5 H4
  go_wp2_with fail
  refine HA.out.mono ?_
  rintro e w6 ⟨rfl, hT, _⟩
  have hh := ta_holds hT (by omega) (by omega) 1
  rw [liveT_h] at hh
  have HH := Lib.hid hh
  have H6 := Lib.hid hT.nw
  clear hT HA hh
  go_wp2_with fail
  refine HH.out.mono ?_
  rintro e w7 ⟨v, rfl, hl, g7⟩
  obtain ⟨v0, v1, v2, hv⟩ : ∃ a b c, v = .slice a b c := by
    obtain ⟨a, c, e, _⟩ := HlOwn.rd hl
    exact ⟨_, _, _, e⟩
  subst hv
  have H7 := Lib.hid (And.intro (HlOwn.rd hl) (H6.out.trans g7))
  clear hl g7 HH H6
  go_wp2_with fail
  refine (kit_DB w7).mono ?_
  rintro e w8 ⟨rfl, g8⟩
  have H8 := Lib.hid (And.intro (H7.out.1.nw g8) (H7.out.2.trans g8))
  clear g8 H7
  go_wp2_with fail
  refine (kit_T 3 w8).mono ?_
  rintro e w9 ⟨rfl, g9⟩
  have gA : Nw w9 (w9.alloc (.cells #[.int .i64 1, .int .i64 (-1), .int .i64 (-1), .int .i64 1, .int .i64 1, .int .i64 3, .int .i64 (-1), .int .i64 3] 44)) := (Nw.refl w9).alloc _
  have HS := Lib.hid (sameL_any (.slice v0 v1 v2) (.slice (some ⟨w9.heap.size, 0, none⟩) 2 2) _ _ (by decide) (H8.out.1.nw (g9.trans gA)) (live_row w9))
  have H9 := Lib.hid (H8.out.2.trans (g9.trans gA))
  clear g9 gA H8
  go_wp2_with fail
  refine HS.out.mono ?_
  rintro e w10 ⟨rfl, g10⟩
  have HE := Lib.hid (H9.out.trans g10)
  clear g10 HS H9
  go_wp2
  go_ret
  exact ⟨rfl, HE.out⟩
end Go.Proofs.YtpffldfpabglbaaGreatDoor
end

/- The table laws: a call, whatever it is; what rows keep. -/
section
namespace Go.Proofs.YtpffldfpabglbaaGreatDoor
open Go.RowKit Go.Shelf
set_option linter.unusedVariables false      -- a contract need not use every name

set_option maxHeartbeats 4000000 in
theorem call_t {w W : World} {o S n N k a b : Nat} {C : Cps} (h : TaS w o S n N k C a b W) (hk : k ≤ 800) (hn : n ≤ 64) (hS0 : 0 < S) (hS : S ≤ 16) (a0 a1 a2 a3 a4 a5 : Int) (hf : Fit a3) :
    Calls Tryz.prog 29 #[.pointer (some ⟨o, 0, none⟩), .agg #[.int .i64 a0, .int .i64 a1, .int .i64 a2, .int .i64 a3, .int .i64 a4, .int .i64 a5]] W fun e W' => (∃ v, e = .returned v) ∧ TaS w o S n N (k + 1) C a b W' ∧ KpA a b W W' := by
  obtain ⟨hss, L, h⟩ := h
  have g1 : Nw W (W.alloc (.cells #[.int .i64 a0, .int .i64 a1, .int .i64 a2, .int .i64 a3, .int .i64 a4, .int .i64 a5] 37)) := (Nw.refl W).alloc _
  have hal := allocAt W (.cells #[.int .i64 a0, .int .i64 a1, .int .i64 a2, .int .i64 a3, .int .i64 a4, .int .i64 a5] 37)
  obtain ⟨z, hz⟩ : ∃ z, W.alloc (.cells #[.int .i64 a0, .int .i64 a1, .int .i64 a2, .int .i64 a3, .int .i64 a4, .int .i64 a5] 37) = z := ⟨_, rfl⟩
  rw [hz] at g1 hal
  have HZ := Lib.hid hz
  have H := Lib.hid (h.step g1)
  obtain ⟨⟨i, g, E⟩, hA⟩ : ∃ q, askTR n hss L a1 a2 a4 a5 = q := ⟨_, rfl⟩
  have HA := Lib.hid (ta_ask H.out hk hn hS a1 a2 a4 a5 i g E hA)
  have HU := Lib.hid (ta_upgrade H.out hk hn hS0 a3 a5 hf _ _ rfl rfl)
  have HL := Lib.hid (ta_leave H.out hk hn hS0 a3 hf _ rfl)
  have HB := Lib.hid (ta_abandon H.out hk hn hS0 a3 hf _ rfl)
  have HH := Lib.hid (ta_hand H.out hk hn hS0 a3 a4 hf _ rfl)
  have c0 := hcell (j := 0) hal
  have c1 := hcell (j := 1) hal
  have c2 := hcell (j := 2) hal
  have c3 := hcell (j := 3) hal
  have c4 := hcell (j := 4) hal
  have c5 := hcell (j := 5) hal
  have cl := hlt hal
  have HP := Lib.hid (pick_any a0 6 z (by omega) (by omega))
  obtain ⟨x, hx⟩ : ∃ x, a0 % 6 = x := ⟨_, rfl⟩
  rw [hx] at HP
  have HG := Lib.hid (KpA.nw (a := a) g1 h.lt)
  clear hz g1 hal h hA hf hx hk hn hS hS0
  generalize upTG hss a3 a5 = ug at *
  generalize upTE hss a3 a5 = ue at *
  generalize (lvTR hss a3).2 = le at *
  generalize (abTR hss a3).2 = ae at *
  generalize hnTE hss a3 a4 = he at *
  obtain ⟨d2, e2⟩ : ∃ d, (x == 2) = d := ⟨_, rfl⟩
  obtain ⟨d3, e3⟩ : ∃ d, (x == 3) = d := ⟨_, rfl⟩
  obtain ⟨d4, e4⟩ : ∃ d, (x == 4) = d := ⟨_, rfl⟩
  obtain ⟨d5, e5⟩ : ∃ d, (x == 5) = d := ⟨_, rfl⟩
  go_enter Tryz.func29, Tryz.ntmps29
  go_wp2_with fail
  rw [HZ.out]
  refine HP.out.mono ?_
  rintro e z' ⟨rfl, rfl⟩
  cases d2
  · cases d3
    · cases d4
      · cases d5
        · go_wp2_with fail
          refine HA.out.mono ?_
          rintro e y ⟨rfl, hb, hkp⟩
          have HE := Lib.hid (And.intro (show TaS w o S n N (k + 1) C a b y from ⟨_, _, hb⟩) (HG.out.trans hkp))
          clear hb hkp HA HU HL HB HH H HP HZ
          go_wp2
          exact bodyPost_end (results_none rfl _ _ _) rfl ⟨⟨_, rfl⟩, HE.out⟩
        · go_wp2_with fail
          refine HH.out.mono ?_
          rintro e y ⟨rfl, hb, hkp⟩
          have HE := Lib.hid (And.intro (show TaS w o S n N (k + 1) C a b y from ⟨_, _, hb⟩) (HG.out.trans hkp))
          clear hb hkp HA HU HL HB HH H HP HZ
          go_wp2
          exact bodyPost_end (results_none rfl _ _ _) rfl ⟨⟨_, rfl⟩, HE.out⟩
      · go_wp2_with fail
        refine HB.out.mono ?_
        rintro e y ⟨vi, rfl, _, hb, hkp, _⟩
        have HE := Lib.hid (And.intro (show TaS w o S n N (k + 1) C a b y from ⟨_, _, hb⟩) (HG.out.trans hkp))
        clear hb hkp HA HU HL HB HH H HP HZ
        go_wp2
        exact bodyPost_end (results_none rfl _ _ _) rfl ⟨⟨_, rfl⟩, HE.out⟩
    · go_wp2_with fail
      refine HL.out.mono ?_
      rintro e y ⟨vi, rfl, _, hb, hkp, _⟩
      have HE := Lib.hid (And.intro (show TaS w o S n N (k + 1) C a b y from ⟨_, _, hb⟩) (HG.out.trans hkp))
      clear hb hkp HA HU HL HB HH H HP HZ
      go_wp2
      exact bodyPost_end (results_none rfl _ _ _) rfl ⟨⟨_, rfl⟩, HE.out⟩
  · go_wp2_with fail
    refine HU.out.mono ?_
    rintro e y ⟨rfl, hb, hkp⟩
    have HE := Lib.hid (And.intro (show TaS w o S n N (k + 1) C a b y from ⟨_, _, hb⟩) (HG.out.trans hkp))
    clear hb hkp HA HU HL HB HH H HP HZ
    go_wp2
    exact bodyPost_end (results_none rfl _ _ _) rfl ⟨⟨_, rfl⟩, HE.out⟩
end Go.Proofs.YtpffldfpabglbaaGreatDoor
end

/- Plain facts of buckets: what is asked for, and left at once, leaves names and requests as they were. Of no program. -/
section
namespace Go.Proofs.YtpffldfpabglbaaGreatDoor
set_option linter.unusedVariables false

end Go.Proofs.YtpffldfpabglbaaGreatDoor
end

/- Plain facts of tables: what is rejected, what is asked and left at once. -/
section
namespace Go.Proofs.YtpffldfpabglbaaGreatDoor
set_option linter.unusedVariables false

section
variable {S n N k : Nat} {hss : List (List Hq)} {L : List Bool}
theorem wthT_of {most k : Nat} (t : TbInv most k hss L) {i : Nat} (hi : i < hss.length) {id : Int} (h : id ∈ allIds hss[i]) : wthT hss id = i := by
  unfold wthT
  cases e : atT hss id with
  | none =>
    have := atT_none e _ (List.getElem_mem hi)
    rw [← of_is, this] at h
    cases h
  | some j =>
    obtain ⟨hj, h1, _⟩ := atT_some e
    exact t.one hj hi (of_is.1 h1) h
/-- There are no more heads than requests. -/
theorem TbOk.sumq (ok : TbOk S n N k hss L) : ((snapT hss).map fun h => h.q.length).sum = liv L := by
  rw [← ok.inv.count, ← flat_sum]
  exact (ok.snap_srt.2.map _).sum_nat
theorem sum_ge {s : List Hq} (h : ∀ x ∈ s, x.q ≠ []) : s.length ≤ (s.map fun h => h.q.length).sum := by
  induction s with
  | nil => simp
  | cons a t ih =>
    have h1 := ih (fun x hx => h x (List.mem_cons_of_mem _ hx))
    have h2 := List.length_pos_iff.2 (h a (by simp))
    simp only [List.length_cons, List.map_cons, List.sum_cons]
    omega
theorem TbOk.snap_ne (ok : TbOk S n N k hss L) : ∀ h ∈ snapT hss, h.q ≠ [] := fun h hh => by
  obtain ⟨l, hl, h2⟩ := List.mem_flatten.1 (ok.snap_srt.2.mem_iff.1 hh)
  exact (ok.inv.part l hl).ne h h2
theorem TbOk.liv_le (ok : TbOk S n N k hss L) : liv L ≤ N := by
  have : liv L ≤ L.length := List.countP_le_length
  rw [ok.ll] at this
  exact this
theorem TbOk.snap_len (ok : TbOk S n N k hss L) : (snapT hss).length ≤ N := Nat.le_trans (sum_ge ok.snap_ne) (ok.sumq ▸ ok.liv_le)
theorem TbOk.all_len (ok : TbOk S n N k hss L) : (allT (snapT hss)).length ≤ N := by
  rw [(all_perm ok.snap_srt.1 ok.snap_ok).length_eq, ← entF_all]
  exact entF_len (ok.sumq ▸ ok.liv_le)
end
end Go.Proofs.YtpffldfpabglbaaGreatDoor
end

/- Plain facts of tables: each request leaves, in whatever order. -/
section
namespace Go.Proofs.YtpffldfpabglbaaGreatDoor
set_option linter.unusedVariables false

theorem allIds_flat (hss : List (List Hq)) : allIds hss.flatten = tIds hss := by
  induction hss with
  | nil => rfl
  | cons a t ih => rw [List.flatten_cons, allIds_app, ih]; rfl
section
variable {S n N k : Nat} {hss : List (List Hq)} {L : List Bool}
theorem TbOk.in_bucket (ok : TbOk S n N k hss L) {id : Int} (h : id ∈ tIds hss) : wthT hss id < hss.length ∧ ∀ (hi : wthT hss id < hss.length), id ∈ allIds hss[wthT hss id] := by
  obtain ⟨hs, hm, hin⟩ := List.mem_flatMap.1 h
  obtain ⟨i, hi, rfl⟩ := List.getElem_of_mem hm
  have e := wthT_of ok.inv hi hin
  exact ⟨by rw [e]; exact hi, fun hi' => by
    have : hss[wthT hss id]'hi' = hss[i] := by congr 1
    rw [this]
    exact hin⟩
theorem TbOk.fit (ok : TbOk S n N k hss L) (hN : N ≤ 128) {id : Int} (h : id ∈ tIds hss) : Fit id := fit_hs (by rw [ok.ll]; exact hN) (ok.inv.mem.1 h)
/-- One leaves. -/
theorem TbOk.leave1 (ok : TbOk S n N k hss L) {id : Int} (h : id ∈ tIds hss) :
    (lvTR hss id).2 = 0 ∧ (tIds hss).Perm (id :: tIds (lvTS hss L id).1) ∧ (getTD (lvTS hss L id).1 id).2.2.2 = false ∧ liv (lvTS hss L id).2 + 1 = liv L ∧
      ∀ g ∈ (lvTR hss id).1, ∃ t r x, getTD (lvTS hss L id).1 g = (t, r, x, true) ∧ x.md ≠ 0 ∧ x.sn = 0 ∧ g ∈ tIds (lvTS hss L id).1 := by
  obtain ⟨hi, hin0⟩ := ok.in_bucket h
  have hin := hin0 hi
  have hS0 : 0 < S := by rw [← ok.sl]; omega
  have ok2 := ok.lv hS0 id
  have b := ok.inv.get hi
  obtain ⟨hq, hhq, hr'⟩ := List.mem_flatMap.1 hin
  obtain ⟨r, hr, hid⟩ := List.mem_map.1 hr'
  obtain ⟨l1, l2⟩ := leave_first b hhq hr
  have hgrt := fun g => leave_grt (g := g) b hhq hr
  have hgone := leave_gone b hhq hr
  rw [hid] at l1 l2 hgrt hgone
  have eL : (lvTS hss L id).2 = gvL L id := by
    unfold lvTS lvBS
    rw [hsAt_get hi]
    have e := b.of_mem hhq hr
    rw [hid] at e
    rw [e]
  have hL := ok.inv.mem.1 h
  have eR : lvTR hss id = lvBR hss[wthT hss id] id := by unfold lvTR; rw [hsAt_get hi]
  have eS : lvTS hss L id = (hss.set (wthT hss id) (lvBS hss[wthT hss id] L id).1, (lvBS hss[wthT hss id] L id).2) := by unfold lvTS; rw [hsAt_get hi]
  have hperm : (tIds hss).Perm (id :: tIds (lvTS hss L id).1) := by
    refine ok.inv.ids.trans ?_
    have h2 := ok2.inv.ids
    rw [eL] at h2
    obtain ⟨i, rfl, hlt, e⟩ := hsL_at hL
    have hg : gvL L (i : Int) = L.set i false := gvL_nat L i (by rw [getD_at hlt]; exact e)
    rw [hg] at h2
    exact (lnt_give hlt e).symm.trans (h2.symm.cons _)
  have hnd := ok.inv.nodup
  have hno : id ∉ tIds (lvTS hss L id).1 := by
    have := (hperm.nodup_iff).1 hnd
    exact (List.nodup_cons.1 this).1
  refine ⟨by rw [eR]; exact l1, hperm, ?_, by rw [eS]; exact l2, fun g hg => ?_⟩
  · have hlen : 0 < (lvTS hss L id).1.length := by rw [ok2.sl]; exact hS0
    have hi2 := wth_lt hlen id
    unfold getTD getBD
    cases e : ofId (hsAt (lvTS hss L id).1 (wthT (lvTS hss L id).1 id)) id with
    | none => rfl
    | some x =>
      exfalso
      have h3 : id ∈ allIds (hsAt (lvTS hss L id).1 (wthT (lvTS hss L id).1 id)) := of_is.1 (by rw [e]; rfl)
      rw [hsAt_get hi2] at h3
      exact hno (List.mem_flatMap.2 ⟨_, List.getElem_mem hi2, h3⟩)
  · rw [eR] at hg
    obtain ⟨h2, hh2, x, hx, e1, e2, e3, e4, e5⟩ := hgrt g hg
    have hlen2 : wthT hss id < (lvTS hss L id).1.length := by rw [eS]; simp only [List.length_set]; exact hi
    have eat : (lvTS hss L id).1[wthT hss id] = (lvBS hss[wthT hss id] L id).1 := by
      have : ∀ (X : List (List Hq)) (h : wthT hss id < X.length) (e : X = hss.set (wthT hss id) (lvBS hss[wthT hss id] L id).1), X[wthT hss id] = (lvBS hss[wthT hss id] L id).1 := fun X h e => by subst e; rw [List.getElem_set_self]
      exact this _ hlen2 (by rw [eS])
    have hgin : g ∈ allIds (lvTS hss L id).1[wthT hss id] := by rw [eat]; exact of_is.1 (by rw [e4]; rfl)
    have ew := wthT_of ok2.inv hlen2 hgin
    refine ⟨h2.t, h2.r, x, ?_, e3, e2, List.mem_flatMap.2 ⟨_, List.getElem_mem hlen2, hgin⟩⟩
    unfold getTD
    rw [ew, hsAt_get hlen2, eat]
    unfold getBD
    rw [e4]
    simp only [e5]
/-- No request is left: no head. -/
theorem TbOk.empty (ok : TbOk S n N k hss L) (h : tIds hss = []) : cntT hss = 0 ∧ liv L = 0 ∧ snapT hss = [] ∧ allT (snapT hss) = [] := by
  have e : ∀ hs ∈ hss, hs = [] := fun hs hm => by
    cases hs with
    | nil => rfl
    | cons a t =>
      exfalso
      have h1 := (ok.inv.part _ hm).ne a (by simp)
      obtain ⟨r, q, hq⟩ := List.exists_cons_of_ne_nil h1
      have : r.id ∈ tIds hss := List.mem_flatMap.2 ⟨_, hm, List.mem_flatMap.2 ⟨a, by simp, List.mem_map.2 ⟨r, by rw [hq]; simp, rfl⟩⟩⟩
      rw [h] at this
      cases this
  have ef : hss.flatten = [] := List.flatten_eq_nil_iff.2 e
  have es : snapT hss = [] := by unfold snapT; rw [ef]; rfl
  refine ⟨by rw [cnt_flat, ef]; rfl, ?_, es, by rw [es]; rfl⟩
  have := ok.inv.ids.length_eq
  rw [h] at this
  simpa [castL, liv_lnt] using this.symm
theorem TbOk.idsS (ok : TbOk S n N k hss L) : (allIds (snapT hss)).Perm (tIds hss) := by
  have h1 : (allIds (snapT hss)).Perm (allIds hss.flatten) := ok.snap_srt.2.flatMap_right _
  refine h1.trans ?_
  rw [allIds_flat]
end
/-- The order in which they leave. -/
abbrev roT (ids : List Int) (p : Nat) : List Int := ids.drop p ++ ids.take p
theorem ro_perm (ids : List Int) (p : Nat) : (roT ids p).Perm ids := by
  exact (List.perm_append_comm).trans (by rw [List.take_append_drop])
theorem ro_len (ids : List Int) (p : Nat) : (roT ids p).length = ids.length := (ro_perm ids p).length_eq
theorem ro_at {ids : List Int} {p i : Nat} (hp : p < ids.length) (hi : i < ids.length) : (i + p) % ids.length < ids.length ∧ ∀ (h : (i + p) % ids.length < ids.length) (h2 : i < (roT ids p).length), ids[(i + p) % ids.length] = (roT ids p)[i] := by
  have hpos : 0 < ids.length := by omega
  refine ⟨Nat.mod_lt _ hpos, fun h h2 => ?_⟩
  by_cases q : i < ids.length - p
  · have e : (i + p) % ids.length = p + i := by rw [Nat.mod_eq_of_lt (by omega)]; omega
    rw [List.getElem_append_left (by rw [List.length_drop]; exact q), List.getElem_drop]
    congr 1
  · have e : (i + p) % ids.length = i - (ids.length - p) := by
      rw [Nat.mod_eq_sub_mod (by omega), Nat.mod_eq_of_lt (by omega)]
      omega
    rw [List.getElem_append_right (by rw [List.length_drop]; omega), List.getElem_take]
    congr 1
    rw [List.length_drop]
    exact e
end Go.Proofs.YtpffldfpabglbaaGreatDoor
end

/- TableEmpty: the walk. -/
section
namespace Go.Proofs.YtpffldfpabglbaaGreatDoor.tableEmpty
open Go.RowKit Go.Shelf
set_option linter.unusedVariables false      -- a contract need not use every name

/-- The numbers, while they are gathered. -/
structure IdI (y1 : World) (v : Value) (l : List Int) (y : World) : Prop where
  is : IS y v l
  nw : Nw y1 y
  new : ∀ b, v.ownBlock = some b → y1.heap.size ≤ b
theorem IdI.push {y1 y : World} {v : Value} {l : List Int} (h : IdI y1 v l y) (x : Int) (hsm : l.length ≤ 100000) :
    ∃ s0 s1 s2 w1, (Builtin.append_ #[60, 60] 60 #[v, .slice (some ⟨y.heap.size, 0, none⟩) 1 1]).run Tryz.prog (y.alloc (.cells #[.int .i64 x] 3)) = .ok (.slice s0 s1 s2) w1 ∧ IdI y1 (.slice s0 s1 s2) (l ++ [x]) w1 := by
  obtain ⟨v', w1, hr, hI, ht, hn, g, cap, rfl⟩ := IS.push y v l x h.is hsm
  exact ⟨_, _, _, w1, hr, hI, nw_tch h.nw ht (fun k e => h.new k e), fun b e => (hn b e).elim (h.new b) (fun q => Nat.le_trans h.nw.sz q)⟩
theorem ids_take (s : List Hq) {i : Nat} (hi : i < s.length) : allIds (s.take (i + 1)) = allIds (s.take i) ++ idsQ s[i].q := by
  rw [List.take_succ_eq_append_getElem hi, allIds_app]
  congr 1
  simp [allIds]
theorem idq_take (q : List Rq) {k : Nat} (hk : k < q.length) : idsQ (q.take (k + 1)) = idsQ (q.take k) ++ [q[k].id] := by
  unfold idsQ
  rw [List.take_succ_eq_append_getElem hk, List.map_append]
  rfl
theorem wrapS {k n : Nat} (h : k < n) (hn : n ≤ 9223372036854775807) : wrap64 ((k : Int) + 1) = (k : Int) + 1 := by unfold wrap64; omega
theorem ltS {k n : Nat} (h : k < n) : (k : Int) < (n : Int) := Int.ofNat_lt.2 h
theorem ids_le (s : List Hq) (i : Nat) : (allIds (s.take i)).length ≤ (allIds s).length := by
  conv => rhs; rw [← List.take_append_drop i s, allIds_app, List.length_append]
  exact Nat.le_add_right _ _
theorem posS {k n : Nat} (h : k < n) : (0 : Int) < (n : Int) := by omega
theorem leS {n : Nat} (h : n ≤ 128) : (n : Int) ≤ 9223372036854775807 := by omega
theorem kS {a b : Nat} (h : a ≤ 50) (k : b < 128) : a + b ≤ 800 := by omega
theorem zS {k n : Nat} (h : k < n) : ((n : Int) == 0) = false := by rw [beq_eq_false_iff_ne]; omega
theorem wrapP {i P n : Nat} (h : i < n) (k : P < n) (hn : n ≤ 128) : wrap64 ((i : Int) + (P : Int)) = ((i + P : Nat) : Int) := by unfold wrap64; omega
theorem isA {w w' : World} {g nn r2 a b : Nat} {l : List Int} (h : IS w (.slice (some ⟨g, 0, none⟩) nn r2) l) (k : KpA a b w w') (ha : a ≤ g) (hb : g < b) : IS w' (.slice (some ⟨g, 0, none⟩) nn r2) l := by
  refine ⟨h.1, ?_⟩
  rcases h.2 with hn | ⟨g', cap, cur, e, hg, hgg, rest⟩
  · exact .inl hn
  · refine .inr ⟨g', cap, cur, e, hg, ?_, rest⟩
    simp only [Value.slice.injEq, Option.some.injEq, Addr.mk.injEq, and_true] at e
    obtain ⟨e, _⟩ := e
    rw [← e] at hgg ⊢
    exact (k g ha hb).trans hgg
theorem glB {w : World} {v : Value} {l : List Int} (h : IS w v l) : l.length ≤ 9223372036854775807 := by
  have := h.len
  unfold maxLen at this
  omega
theorem subK {K i n : Nat} (h : K + i + 1 = n) (hn : n ≤ 128) : ∃ D : Int, wrap64 ((n : Int) - (i : Int)) = D ∧ wrap64 (D - 1) = (K : Int) := ⟨_, rfl, by unfold wrap64; omega⟩
theorem leN {n : Nat} (h : n ≤ 128) : n ≤ 9223372036854775807 := by omega
theorem ids_sum {s : List Hq} {q : List Rq} (i k : Nat) (h1 : (allIds s).length ≤ 128) (h7 : q.length ≤ 1000) : (allIds (s.take i) ++ idsQ (q.take k)).length ≤ 100000 := by
  have h2 := ids_le s i
  have h3 : (idsQ (q.take k)).length ≤ 1000 := by
    unfold idsQ
    rw [List.length_map, List.length_take]
    omega
  rw [List.length_append]
  omega
set_option maxRecDepth 100000 in
set_option maxHeartbeats 8000000 in
theorem walk (S n N : Nat) (p : Int) (hC : CapsOk ⟨S, n, N, p⟩) (v : Value) (l : List Cl) (tn : Int) (w : World) (hl : Rd 6 clrow w v l) (hok : ∀ R ∈ l, Cl.ok R) (h0 : l.length ≤ 50) :
    Calls Tryz.prog 7 #[.agg #[.int .i64 S, .int .i64 n, .int .i64 N, .int .i64 p], v, .int .i64 tn] w fun e w' => e = .returned (.bool true) ∧ Nw w w' := by
  obtain ⟨⟨s1, s2⟩, ⟨n1, n2⟩, ⟨N1, N2⟩, _⟩ := id hC
  simp only at s1 s2 n1 n2 N1 N2
  have HB := Lib.hid (And.intro (show 0 < S ∧ S ≤ 16 by omega) (And.intro (show n ≤ 64 by omega) (And.intro (show N ≤ 128 by omega) h0)))
  have HCo := Lib.hid hC
  have HL := Lib.hid (And.intro hl hok)
  obtain ⟨va, vc, rfl, _⟩ := hl
  have d0 : decide ((50 : Int) < (l.length : Int)) = false := by rw [decide_eq_false_iff_not]; omega
  have ha1 := allocAt w (.cells #[.int .i64 S, .int .i64 n, .int .i64 N, .int .i64 p] 23)
  obtain ⟨z, hz⟩ : ∃ z, w.alloc (.cells #[.int .i64 S, .int .i64 n, .int .i64 N, .int .i64 p] 23) = z := ⟨_, rfl⟩
  have hN0 : Nw w z := by rw [← hz]; exact (Nw.refl w).alloc _
  rw [hz] at ha1
  have HZ := Lib.hid hz
  have HX := Lib.hid (And.intro ha1 hN0)
  clear hz ha1 hN0 hok h0 hC s1 s2 n1 n2 N1 N2
  go_enter Tryz.func7, Tryz.ntmps7
  go_wp2_with fail
  rw [HZ.out]
  refine (lives_t z).mono ?_
  rintro e w1 ⟨rfl, g1⟩
  have HG1 := Lib.hid g1
  have hb1 := g1.at' HX.out.1
  have c0 := hcell (j := 0) hb1
  have c1 := hcell (j := 1) hb1
  have c2 := hcell (j := 2) hb1
  have c3 := hcell (j := 3) hb1
  have cl := hlt hb1
  clear g1 hb1
  have HNe := Lib.hid (ta_new z w1 HG1.out S n N p HCo.out)
  go_wp2_with fail
  refine HNe.out.mono ?_
  rintro e w2 ⟨o, rfl, hT⟩
  have HS := Lib.hid (show TaS z o S n N 0 ⟨S, n, N, p⟩ 0 0 w2 from ⟨_, _, hT⟩)
  clear hT HG1 HNe c0 c1 c2 c3 cl
  go_wp2_with fail
  go_loopw [9] (fun vi wr => ∃ j : Nat, vi = .int .i64 j ∧ j ≤ l.length ∧ Hid (TaS z o S n N j ⟨S, n, N, p⟩ 0 0 wr)) (fun vi _ => l.length - (intOf vi).toNat)
  case atStart => exact ⟨0, rfl, Nat.zero_le _, HS⟩
  case round =>
    clear HS
    obtain ⟨j, rfl, hj, HK⟩ := hrel
    by_cases hjl : j < l.length
    · obtain ⟨a', c', e, ⟨q, _⟩ | ⟨b, ob, e2, hc⟩⟩ := HL.out.1
      · rw [q] at hjl; simp at hjl
      subst e2
      cases e
      have hwj : wrap64 ((j : Int) + 1) = (j : Int) + 1 := by have := HB.out.2.2.2; unfold wrap64; omega
      have hji : (j : Int) < (l.length : Int) := by omega
      obtain ⟨hs0, L0, hba⟩ := HK.out
      have hce := (hc.nw (HX.out.2.trans hba.nw)).cell j hjl
      have hwf := HL.out.2 _ (List.getElem_mem hjl)
      clear hba hc
      generalize l[j] = R at *
      obtain ⟨b0, b1, b2, b3, b4, b5⟩ := R
      have c0 := hce 0 _ rfl
      have c1 := hce 1 _ rfl
      have c2 := hce 2 _ rfl
      have c3 := hce 3 _ rfl
      have c4 := hce 4 _ rfl
      have c5 := hce 5 _ rfl
      simp only [Nat.add_zero] at c0
      have HC := Lib.hid (call_t HK.out (by have := HB.out.2.2.2; omega) HB.out.2.1 HB.out.1.1 HB.out.1.2 b0 b1 b2 b3 b4 b5 hwf.2.2.1)
      clear hce hwf HK
      go_wp2_with fail
      refine HC.out.mono ?_
      rintro e w3 ⟨⟨v3, rfl⟩, hs, _⟩
      have HK := Lib.hid hs
      clear hs HC c0 c1 c2 c3 c4 c5
      go_wp2_with fail
      go_roundw
      case rel => exact ⟨j + 1, congrArg (Value.int .i64) (by first | exact nxU j | exact hwj.trans (nxU j)), hjl, HK⟩
      case measure => first | exact downU l.length j hjl | (rw [hwj]; exact downU l.length j hjl)
    · obtain rfl : j = l.length := by omega
      obtain ⟨hss, L, hT⟩ := HK.out
      have HSn := Lib.hid (ta_snap hT HB.out.1.2 HB.out.2.1)
      have HT := Lib.hid hT
      clear hT HK hj hjl
      go_wp2_with fail
      refine HSn.out.mono ?_
      rintro e y1 ⟨v0, rfl, hh0, g1⟩
      obtain ⟨lm, ⟨⟨a0, c0, rfl, hr0⟩, hq0⟩, he0⟩ := hh0.rd
      have HT1 := Lib.hid (HT.out.step g1)
      have HD := Lib.hid (And.intro hr0 (And.intro hq0 (And.intro he0 g1)))
      have hlb : lm.length ≤ 1000 := by have h1 := HT.out.ok.snap_len; have h2 := HB.out.2.2.1; rw [← he0, List.length_map] at h1; omega
      have HIl := Lib.hid (show (allIds (snapT hss)).length ≤ 128 by
        have h1 := HT.out.ok.liv_le
        have h2 := HB.out.2.2.1
        rw [HT.out.ok.idsS.length_eq, HT.out.ok.inv.ids.length_eq]
        have : (castL (lnt L)).length = liv L := by simp [castL, liv_lnt]
        omega)
      clear hh0 g1 hr0 hq0 he0 HSn
      go_wp2_with fail
      go_loopw [10, 12, 13] (fun vi ii _ y => ∃ (i : Nat) (s0 : Option Addr) (s1 s2 : Nat), vi = .slice s0 s1 s2 ∧ ii = .int .i64 i ∧ i ≤ lm.length ∧ Hid (IdI y1 (.slice s0 s1 s2) (allIds ((snapT hss).take i)) y)) (fun _ ii _ _ => lm.length - (intOf ii).toNat)
      case atStart => exact ⟨0, none, 0, 0, rfl, rfl, Nat.zero_le _, IS.nil _, Nw.refl _, fun b e => by cases e⟩
      case round =>
        obtain ⟨i, r0, r1, r2, rfl, rfl, hi, HI⟩ := hrel
        by_cases hil : i < lm.length
        · rcases HD.out.1 with ⟨q, _⟩ | ⟨b, ob, rfl, hc⟩
          · rw [q] at hil; simp at hil
          have his : i < (snapT hss).length := by rw [← HD.out.2.2.1, List.length_map]; exact hil
          have hhe : (snapT hss)[i] = lm[i].h := by
            have : (lm.map Hm.h)[i]'(by rw [List.length_map]; exact hil) = (snapT hss)[i] := by congr 1; exact HD.out.2.2.1
            rw [← this, List.getElem_map]
          have hit := ids_take (snapT hss) his
          rw [hhe] at hit
          have hx := HD.out.2.1 _ (List.getElem_mem hil)
          have hii := ltS hil
          have hwi := wrapS hil (Nat.le_trans hlb (by decide))
          have hce := hc.cell i hil
          clear hc hhe
          generalize lm[i] = x at *
          obtain ⟨⟨xt, xr, xW, q⟩, xa, xc⟩ := x
          have c2 := hce 2 _ rfl
          obtain ⟨ql, hql⟩ : ∃ ql, q.length = ql := ⟨_, rfl⟩
          rw [hql] at c2
          have HC2 := Lib.hid (fun y (g : Nw y1 y) => g.kp c2)
          have HK := Lib.hid (And.intro hx (And.intro hit hql))
          have hbl := World.block_lt_of_cell? _ _ c2
          simp only at hbl
          have HBl := Lib.hid hbl
          clear hce hx hit hql c2 hbl his
          go_wp2_with fail
          go_loopw [10, 13] (fun vi kk y => ∃ (k : Nat) (s0 : Option Addr) (s1 s2 : Nat), vi = .slice s0 s1 s2 ∧ kk = .int .i64 k ∧ k ≤ ql ∧ Hid (IdI y1 (.slice s0 s1 s2) (allIds ((snapT hss).take i) ++ idsQ (q.take k)) y)) (fun _ kk _ => ql - (intOf kk).toNat)
          case atStart => exact ⟨0, _, _, _, rfl, rfl, Nat.zero_le _, (show Hid (IdI y1 _ (allIds ((snapT hss).take i) ++ []) _) from (List.append_nil _).symm ▸ HI.out)⟩
          case round =>
            clear HI
            obtain ⟨k, t0, t1, t2, rfl, rfl, hk, HJ⟩ := hrel
            have c2 := HC2.out _ HJ.out.nw
            have cbl := Nat.lt_of_lt_of_le HBl.out HJ.out.nw.sz
            by_cases hkl : k < ql
            · have hkq : k < q.length := by rw [HK.out.2.2]; exact hkl
              obtain ⟨a', c', e, ⟨q0, _⟩ | ⟨qb, qo, e2, hcq⟩⟩ := HK.out.1.1
              · (try simp only at q0); rw [q0] at hkq; simp at hkq
              unfold hmV at e
              subst e2
              simp only [Value.slice.injEq] at e
              obtain ⟨rfl, _, rfl⟩ := e
              have hcr := (hcq.nw HJ.out.nw).cell k hkq
              have hen := idq_take q hkq
              generalize q[k] = R at *
              obtain ⟨i0, i1, i2, i3, i4⟩ := R
              try simp only at hen
              have c0 := hcr 0 _ rfl
              simp only [Nat.add_zero] at c0
              have cl := World.block_lt_of_cell? _ _ c0
              simp only at cl
              have hki := ltS hkl
              have hwk := wrapS hkl (HK.out.2.2 ▸ Nat.le_trans HK.out.1.2 (by decide))
              obtain ⟨u0, u1, u2, w3, hrun, hnx⟩ := HJ.out.push i0 (ids_sum i k HIl.out HK.out.1.2)
              have HE := Lib.hid (show IdI y1 (.slice u0 u1 u2) (allIds ((snapT hss).take i) ++ idsQ (q.take (k + 1))) w3 from by
                rw [hen, ← List.append_assoc]
                exact hnx)
              have HR := Lib.hid hrun
              clear hcq hcr hen hrun hnx HJ
              go_wp2_with (at_builtin; refine wpl_app (by rfl) (.tmp 74) (.tmp 84) 60 rfl _ _ _ _ (by first | rfl | simp [Act.eval, *]) (by first | rfl | simp [Act.eval, *]) HR.out ?_)
              go_roundw
              case rel => exact ⟨k + 1, _, _, _, rfl, congrArg (Value.int .i64) (by first | exact nxU k | exact hwk.trans (nxU k)), hkl, HE⟩
              case measure => first | exact downU ql k hkl | (rw [hwk]; exact downU ql k hkl)
            · obtain rfl : k = ql := by omega
              have HE := Lib.hid (show IdI y1 (.slice t0 t1 t2) (allIds ((snapT hss).take (i + 1))) wr from by
                rw [HK.out.2.1]
                have e : q.take k = q := by rw [← HK.out.2.2, List.take_length]
                have := HJ.out
                rw [e] at this
                exact this)
              clear HJ
              go_wp2_with fail
              go_roundw
              case rel => exact ⟨i + 1, _, _, _, rfl, congrArg (Value.int .i64) (by first | exact nxU i | exact hwi.trans (nxU i)), hil, HE⟩
              case measure => first | exact downU lm.length i hil | (rw [hwi]; exact downU lm.length i hil)
        · obtain rfl : i = lm.length := Nat.le_antisymm hi (Nat.le_of_not_lt hil)
          have hids : IdI y1 (.slice r0 r1 r2) (allIds (snapT hss)) wr := by
            have e : (snapT hss).take lm.length = snapT hss := by rw [← HD.out.2.2.1]; exact List.take_of_length_le (by rw [List.length_map]; exact Nat.le_refl _)
            have := HI.out
            rw [e] at this
            exact this
          have HT2 := Lib.hid (HT1.out.mark hids.nw)
          have HId := Lib.hid hids
          obtain ⟨ids, hidl⟩ : ∃ ids, allIds (snapT hss) = ids := ⟨_, rfl⟩
          have HIdl := Lib.hid hidl
          rw [hidl] at HId HIl
          have hr1 : r1 = ids.length := by
            have h1 := HId.out.is
            rcases oform h1 with ⟨e, q⟩ | ⟨g, cap, e⟩
            · simp only [Value.slice.injEq] at e; rw [e.2.1, q]
            · simp only [Value.slice.injEq] at e; exact e.2.1
          obtain ⟨nn, hnn⟩ : ∃ nn, ids.length = nn := ⟨_, rfl⟩
          rw [hnn] at hr1
          have hr2 := hr1.symm
          subst hr2
          have HNn := Lib.hid hnn
          have HSt := Lib.hid (show (tIds hss).Perm ((roT ids (tn % (nn : Int)).toNat).drop 0) from by
            rw [List.drop_zero]
            exact (HT.out.ok.idsS.symm.trans (by rw [hidl])).trans (ro_perm _ _).symm)
          obtain ⟨Y2, hY2⟩ : ∃ Y2, wr.heap.size = Y2 := ⟨_, rfl⟩
          have HY2 := Lib.hid hY2
          rw [hY2] at HT2
          clear hids hidl hnn hY2 HI hi hil hr1
          go_wp2_with fail
          go_loopw [15] (fun ii y => ∃ (i : Nat) (hs : List (List Hq)) (L' : List Bool), ii = .int .i64 i ∧ i ≤ nn ∧ Hid (TaE z o S n N (l.length + i) ⟨S, n, N, p⟩ hs L' y1.heap.size Y2 y ∧ (tIds hs).Perm ((roT ids (tn % (nn : Int)).toNat).drop i) ∧ IS y (.slice r0 nn r2) ids)) (fun ii _ => nn - (intOf ii).toNat)
          case atStart => exact ⟨0, hss, L, rfl, Nat.zero_le _, HT2.out, HSt.out, HId.out.is⟩
          case round =>
            obtain ⟨i, hs, L', rfl, hi, HJ⟩ := hrel
            by_cases hil : i < nn
            · obtain ⟨P, hP⟩ := Int.eq_ofNat_of_zero_le (Int.emod_nonneg tn (show (nn : Int) ≠ 0 by omega))
              have hP2 : P < nn := by have := Int.emod_lt_of_pos tn (show (0 : Int) < (nn : Int) by omega); omega
              have HPk := Lib.hid (fun W => pick_any tn nn W (posS hil) (leS (HNn.out ▸ HIl.out)))
              rw [hP] at HPk
              obtain ⟨g, rfl⟩ : ∃ g, r0 = some ⟨g, 0, none⟩ := by
                rcases oform HJ.out.2.2 with ⟨e, q⟩ | ⟨g, cap, e⟩
                · rw [HNn.out] at q; omega
                · simp only [Value.slice.injEq] at e; exact ⟨g, e.1⟩
              obtain ⟨hq1, hq2⟩ := ro_at (ids := ids) (p := P) (i := i) (by rw [HNn.out]; exact hP2) (by rw [HNn.out]; exact hil)
              have hri : i < (roT ids P).length := by rw [ro_len, HNn.out]; exact hil
              have hq3 := hq2 hq1 hri
              have hcell := HJ.out.2.2.cell ((i + P) % ids.length) hq1
              rw [List.getD_eq_getElem?_getD, List.getElem?_eq_getElem hq1, Option.getD_some, hq3] at hcell
              have hgl := HJ.out.2.2.glt
              rw [HNn.out] at hcell hq1
              have hqe : ((i : Int) + (P : Int)) % (nn : Int) = (((i + P) % nn : Nat) : Int) := rfl
              obtain ⟨Q, hQ⟩ : ∃ Q, (i + P) % nn = Q := ⟨_, rfl⟩
              rw [hQ] at hcell hq1 hqe
              have hqi := ltS hq1
              obtain ⟨M, hM, hMt⟩ : ∃ M : Int, wrap64 ((i : Int) + (P : Int)) = M ∧ M.tmod (nn : Int) = (Q : Int) := ⟨_, rfl, by rw [wrapP hil hP2 (HNn.out ▸ HIl.out)]; exact hqe⟩
              clear hqe
              have hperm := HJ.out.2.1
              rw [hP, Int.toNat_natCast, List.drop_eq_getElem_cons hri] at hperm
              have hok := HJ.out.1.ok
              have hin := hperm.mem_iff.2 (List.mem_cons_self)
              have hfit := hok.fit HB.out.2.2.1 hin
              obtain ⟨k1, k2, k3, k4, k5⟩ := hok.leave1 hin
              obtain ⟨X, hX⟩ : ∃ X, (roT ids P)[i] = X := ⟨_, rfl⟩
              rw [hX] at hcell hperm hin hfit k1 k2 k3 k4 k5
              have hii := ltS hil
              have HLv := Lib.hid (ta_leave HJ.out.1 (kS HB.out.2.2.2 (Nat.lt_of_lt_of_le hil (HNn.out ▸ HIl.out))) HB.out.2.1 HB.out.1.1 X hfit 0 k1)
              have HF := Lib.hid (And.intro k2 (And.intro k3 (And.intro k4 (And.intro k5 (And.intro hperm (And.intro hfit hok))))))
              clear hQ hq2 hq3 hperm hin hfit k1 k2 k3 k4 k5 hX hri hok
              go_wp2_with fail
              refine (HPk.out _).mono ?_
              rintro e w' ⟨rfl, rfl⟩
              have dn : ((nn : Int) == 0) = false := zS hil
              go_wp2_with fail
              refine HLv.out.mono ?_
              rintro e y3 ⟨vi, rfl, his, hT3, hkp, _⟩
              obtain ⟨ai, ci, hvi, _⟩ := his.box
              obtain ⟨gl, hgl2⟩ : ∃ gl, (lvTR hs X).1 = gl := ⟨_, rfl⟩
              rw [hgl2] at his hvi
              have hgf := HF.out.2.2.2.1
              rw [hgl2] at hgf
              obtain ⟨gn, hgn⟩ : ∃ gn, gl.length = gn := ⟨_, rfl⟩
              rw [hgn] at hvi
              subst hvi
              have HT3 := Lib.hid hT3
              have HGr := Lib.hid (And.intro his (And.intro hgf hgn))
              have HIs3 := Lib.hid (show IS y3 (.slice (some ⟨g, 0, none⟩) nn r2) ids from isA HJ.out.2.2 hkp (HId.out.new g rfl) (by rw [← HY2.out]; exact HId.out.is.glt))
              have HGb : Hid (gn ≤ 9223372036854775807) := hgn ▸ glB his
              clear his hT3 hkp hgl2 hgf hgn HLv hcell hgl hq1 hqi hM hMt
              go_wp2_with fail
              go_loopw [19] (fun kk y => ∃ k : Nat, kk = .int .i64 k ∧ k ≤ gn ∧ Hid (Nw y3 y)) (fun kk _ => gn - (intOf kk).toNat)
              case atStart => exact ⟨0, rfl, Nat.zero_le _, Nw.refl _⟩
              case round =>
                obtain ⟨k, rfl, hk, HG⟩ := hrel
                by_cases hkl : k < gn
                · have hkq : k < gl.length := by rw [HGr.out.2.2]; exact hkl
                  obtain ⟨gg, rfl⟩ : ∃ gg, ai = some ⟨gg, 0, none⟩ := by
                    rcases oform HGr.out.1 with ⟨e, q⟩ | ⟨g', cap, e⟩
                    · rw [HGr.out.2.2] at q; omega
                    · simp only [Value.slice.injEq] at e; exact ⟨g', e.1⟩
                  have hce := (HGr.out.1.nw HG.out).cell k hkq
                  have hgl3 := (HGr.out.1.nw HG.out).glt
                  rw [List.getD_eq_getElem?_getD, List.getElem?_eq_getElem hkq, Option.getD_some] at hce
                  obtain ⟨t, r, x, hgt, hmd, hsn, hgin⟩ := HGr.out.2.1 _ (List.getElem_mem hkq)
                  have hfg := HT3.out.ok.fit HB.out.2.2.1 hgin
                  generalize gl[k] = G at *
                  obtain ⟨b0, b1, b2, b3, b4⟩ := x
                  simp only at hmd hsn
                  subst hsn
                  have dmd : (b2 == 0) = false := by rw [beq_eq_false_iff_ne]; exact hmd
                  have HGt := Lib.hid (ta_get (HT3.out.step HG.out) HB.out.1.1 G hfg t r b0 b1 b2 b3 0 true hgt)
                  have hki := ltS hkl
                  have hwk := wrapS hkl HGb.out
                  clear hgt hmd hgin hfg
                  go_wp2_with fail
                  refine HGt.out.mono ?_
                  rintro e y4 ⟨rfl, g4⟩
                  obtain ⟨z1, hz1⟩ : ∃ z1, (y4.alloc (.cells #[.int .i64 t, .int .i64 r] 34)).alloc (.cells #[.int .i64 b0, .int .i64 b1, .int .i64 b2, .int .i64 b3, .int .i64 0] 50) = z1 := ⟨_, rfl⟩
                  have hal := allocAt (y4.alloc (.cells #[.int .i64 t, .int .i64 r] 34)) (.cells #[.int .i64 b0, .int .i64 b1, .int .i64 b2, .int .i64 b3, .int .i64 0] 50)
                  rw [hz1, World.size_alloc] at hal
                  have gA : Nw y4 z1 := by rw [← hz1]; exact ((Nw.refl y4).alloc _).alloc _
                  have HZ1 := Lib.hid hz1
                  have HG4 := Lib.hid (HG.out.trans (g4.trans gA))
                  clear g4 gA HGt hce hgl3 HG hz1
                  go_upto_region 33 with fail
                  rw [HZ1.out]
                  generalize y4.heap.size = q0 at *
                  have d2 := Go.Proofs.YtpffldfpabglbaaGreatDoor.hcell (j := 2) hal
                  have d4 := Go.Proofs.YtpffldfpabglbaaGreatDoor.hcell (j := 4) hal
                  have dl := hlt hal
                  clear hal HZ1
                  go_wp2_with fail
                  go_roundw
                  case rel => exact ⟨k + 1, congrArg (Value.int .i64) (by first | exact nxU k | exact hwk.trans (nxU k)), hkl, HG4⟩
                  case measure => first | exact downU gn k hkl | (rw [hwk]; exact downU gn k hkl)
                · obtain rfl : k = gn := Nat.le_antisymm hk (Nat.le_of_not_lt hkl)
                  have HT4 := Lib.hid (HT3.out.step HG.out)
                  have HIs4 := Lib.hid (HIs3.out.nw HG.out)
                  obtain ⟨⟨t, r, ⟨b0, b1, b2, b3, b4⟩, y⟩, hgt⟩ : ∃ q, getTD (lvTS hs L' X).1 X = q := ⟨_, rfl⟩
                  have hy : y = false := by have := HF.out.2.1; rw [hgt] at this; exact this
                  subst hy
                  have HGt := Lib.hid (ta_get HT4.out HB.out.1.1 X HF.out.2.2.2.2.2.1 t r b0 b1 b2 b3 b4 false hgt)
                  have HPm := Lib.hid (show (tIds (lvTS hs L' X).1).Perm ((roT ids P).drop (i + 1)) from (List.perm_cons X).1 (HF.out.1.symm.trans HF.out.2.2.2.2.1))
                  obtain ⟨K, hK⟩ : ∃ K, liv (lvTS hs L' X).2 = K := ⟨_, rfl⟩
                  have HKe := Lib.hid hK
                  have HKn := Lib.hid (show K + i + 1 = nn by
                    have h1 := HPm.out.length_eq
                    rw [HT4.out.ok.inv.ids.length_eq, List.length_drop, ro_len, HNn.out] at h1
                    have h2 : (castL (lnt (lvTS hs L' X).2)).length = liv (lvTS hs L' X).2 := by simp [castL, liv_lnt]
                    rw [h2, hK] at h1
                    omega)
                  obtain ⟨D, hD, hD2⟩ : ∃ D : Int, wrap64 ((nn : Int) - (i : Int)) = D ∧ wrap64 (D - 1) = (K : Int) := subK HKn.out (HNn.out ▸ HIl.out)
                  clear hgt hk hkl hK
                  clear HG HGr HT3 HIs3
                  go_wp2_with fail
                  refine HGt.out.mono ?_
                  rintro e y4 ⟨rfl, g4⟩
                  have gA : Nw y4 ((y4.alloc (.cells #[.int .i64 t, .int .i64 r] 34)).alloc (.cells #[.int .i64 b0, .int .i64 b1, .int .i64 b2, .int .i64 b3, .int .i64 b4] 50)) := ((Nw.refl y4).alloc _).alloc _
                  have HT5 := Lib.hid (HT4.out.step (g4.trans gA))
                  have HIs5 := Lib.hid (HIs4.out.nw (g4.trans gA))
                  have hct := ta_counts HT5.out HB.out.1.2 HB.out.2.1
                  rw [HKe.out] at hct
                  have HCt := Lib.hid hct
                  clear g4 gA HGt HT4 HIs4 hct
                  go_wp2_with fail
                  refine HCt.out.mono ?_
                  rintro e y5 ⟨rfl, g5⟩
                  have HT6 := Lib.hid (HT5.out.step g5)
                  have HIs6 := Lib.hid (HIs5.out.nw g5)
                  have hwi := wrapS hil (leN (HNn.out ▸ HIl.out))
                  clear g5 HCt HT5 HIs5
                  go_wp2_with fail
                  go_roundw
                  case rel => exact ⟨i + 1, _, _, congrArg (Value.int .i64) (by first | exact nxU i | exact hwi.trans (nxU i)), hil, HT6.out, by rw [hP, Int.toNat_natCast]; exact HPm.out, HIs6.out⟩
                  case measure => first | exact downU nn i hil | (rw [hwi]; exact downU nn i hil)
            · obtain rfl : i = nn := Nat.le_antisymm hi (Nat.le_of_not_lt hil)
              have hz : tIds hs = [] := by
                have h1 := HJ.out.2.1
                rw [List.drop_eq_nil_of_le (by rw [ro_len, HNn.out]; exact Nat.le_refl _)] at h1
                exact List.Perm.eq_nil h1
              obtain ⟨z1, z2, z3, z4⟩ := HJ.out.1.ok.empty hz
              have hct := ta_counts HJ.out.1 HB.out.1.2 HB.out.2.1
              rw [z1, z2] at hct
              have HCt := Lib.hid hct
              have HT5 := Lib.hid HJ.out.1
              have HZs := Lib.hid (And.intro z3 z4)
              clear hct hz z1 z2 z3 z4 HJ hi hil
              go_wp2_with fail
              refine HCt.out.mono ?_
              rintro e y5 ⟨rfl, g5⟩
              have HT6 := Lib.hid (HT5.out.step g5)
              have hal := ta_all HT6.out HB.out.1.2 HB.out.2.1
              rw [HZs.out.2] at hal
              have HAl := Lib.hid hal
              clear g5 HCt HT5 hal
              go_wp2_with fail
              refine HAl.out.mono ?_
              rintro e y6 ⟨v3, rfl, hl3, g6⟩
              obtain ⟨w0, w2', hw0⟩ : ∃ a c, v3 = .slice a 0 c := by
                obtain ⟨a, c, e, _⟩ := HlOwn.rd hl3
                exact ⟨_, _, e⟩
              subst hw0
              have HT7 := Lib.hid (HT6.out.step g6)
              have hsn := ta_snap HT7.out HB.out.1.2 HB.out.2.1
              rw [HZs.out.1] at hsn
              have HSn := Lib.hid hsn
              clear hl3 g6 HAl HT6 hsn
              go_wp2_with fail
              refine HSn.out.mono ?_
              rintro e y7 ⟨v4, rfl, hh, g7⟩
              obtain ⟨x0, x2, hx0⟩ : ∃ a c, v4 = .slice a 0 c := by
                rcases hh.form with ⟨q, _⟩ | ⟨g, cap, q, _⟩
                · exact ⟨_, _, q⟩
                · exact ⟨_, _, q⟩
              subst hx0
              have HE := Lib.hid (HX.out.2.trans (HT7.out.nw.trans g7))
              clear hh g7 HSn HT7
              go_wp2
              go_ret
              exact ⟨rfl, HE.out⟩
end Go.Proofs.YtpffldfpabglbaaGreatDoor.tableEmpty
end

/- TableEmpty: whatever the arguments are. -/
section
namespace Go.Proofs.YtpffldfpabglbaaGreatDoor.tableEmpty
open Go.RowKit Go.Shelf
set_option linter.unusedVariables false

set_option maxRecDepth 100000 in
set_option maxHeartbeats 4000000 in
theorem walk_bad (C : Cps) (h : ¬ CapsOk C) (v : Value) (l : List Cl) (tn : Int) (w : World) (hl : Rd 6 clrow w v l) (h0 : l.length ≤ 50) :
    Calls Tryz.prog 7 #[capV C, v, .int .i64 tn] w fun e w' => e = .returned (.bool true) ∧ Nw w w' := by
  obtain ⟨va, vc, rfl, _⟩ := hl
  have d0 : decide ((50 : Int) < (l.length : Int)) = false := by rw [decide_eq_false_iff_not]; omega
  have HNe := Lib.hid (fun W => newT_bad C h W)
  obtain ⟨S, n, N, p⟩ := C
  unfold capV at *
  simp only at HNe ⊢
  have ha3 := allocAt w (.cells #[.int .i64 S, .int .i64 n, .int .i64 N, .int .i64 p] 23)
  obtain ⟨z, hz⟩ : ∃ z, w.alloc (.cells #[.int .i64 S, .int .i64 n, .int .i64 N, .int .i64 p] 23) = z := ⟨_, rfl⟩
  have hN0 : Nw w z := by rw [← hz]; exact (Nw.refl w).alloc _
  rw [hz] at ha3
  have HZ := Lib.hid hz
  have HX := Lib.hid (And.intro ha3 hN0)
  clear hz ha3 hN0 h0 h
  go_enter Tryz.func7, Tryz.ntmps7
  go_wp2_with fail
  rw [HZ.out]
  refine (lives_t z).mono ?_
  rintro e w1 ⟨rfl, g1⟩
  have HG1 := Lib.hid g1
  have hb1 := g1.at' HX.out.1
  have c0 := hcell (j := 0) hb1
  have c1 := hcell (j := 1) hb1
  have c2 := hcell (j := 2) hb1
  have c3 := hcell (j := 3) hb1
  have cl := hlt hb1
  clear g1 hb1
  go_wp2_with fail
  refine (HNe.out w1).mono ?_
  rintro e w2 ⟨rfl, g2⟩
  have HE := Lib.hid (HX.out.2.trans (HG1.out.trans g2))
  clear g2 HG1
  go_wp2
  go_ret
  exact ⟨rfl, HE.out⟩
set_option maxRecDepth 100000 in
set_option maxHeartbeats 2000000 in
theorem law_any (a b c d : Int) (v : Value) (l : List Cl) (tn : Int) (w : World) (hl : Rd 6 clrow w v l) (hok : ∀ R ∈ l, Cl.ok R) :
    Calls Tryz.prog 7 #[.agg #[.int .i64 a, .int .i64 b, .int .i64 c, .int .i64 d], v, .int .i64 tn] w fun e w' => e = .returned (.bool true) ∧ Nw w w' := by
  by_cases h : l.length ≤ 50
  · by_cases hC : CapsOk ⟨a, b, c, d⟩
    · obtain ⟨⟨s1, s2⟩, ⟨n1, n2⟩, ⟨N1, N2⟩, _⟩ := id hC
      simp only at s1 n1 N1
      obtain ⟨S, rfl⟩ := Int.eq_ofNat_of_zero_le (show 0 ≤ a by omega)
      obtain ⟨n, rfl⟩ := Int.eq_ofNat_of_zero_le (show 0 ≤ b by omega)
      obtain ⟨N, rfl⟩ := Int.eq_ofNat_of_zero_le (show 0 ≤ c by omega)
      exact walk S n N d hC v l tn w hl hok h
    · exact walk_bad ⟨a, b, c, d⟩ hC v l tn w hl h
  · obtain ⟨va, vc, rfl, _⟩ := hl
    have d0 : decide ((50 : Int) < (l.length : Int)) = true := by rw [decide_eq_true_eq]; omega
    have HN := Lib.hid (Nw.refl w)
    clear h hok
    have HG := Lib.hid ((Nw.refl w).alloc (.cells #[.int .i64 a, .int .i64 b, .int .i64 c, .int .i64 d] 23))
    go_enter Tryz.func7, Tryz.ntmps7
    go_wp2_with fail
    refine (lives_t _).mono ?_
    rintro e w1 ⟨rfl, g1⟩
    have HG1 := Lib.hid (HG.out.trans g1)
    clear g1 HG
    go_wp2_with fail
    go_ret
    exact ⟨rfl, HG1.out⟩
end Go.Proofs.YtpffldfpabglbaaGreatDoor.tableEmpty
end
