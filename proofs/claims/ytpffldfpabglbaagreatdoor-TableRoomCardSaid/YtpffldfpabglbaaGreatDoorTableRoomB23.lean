/- Texts merged: TbW, TbY, TbG, TcA, TcB, TcC -/
import Derived.Test.YtpffldfpabglbaaGreatDoorTableRoomB22

/- The table laws: Same of what is held; lives; call. -/
section
namespace Go.Proofs.YtpffldfpabglbaaGreatDoor
open Go.RowKit Go.Shelf
set_option linter.unusedVariables false      -- a contract need not use every name

set_option maxRecDepth 100000 in
set_option maxHeartbeats 2000000 in
theorem sameL_rows (b o c b' o' c' : Nat) (l : List Hl) (w : World) (hm : l.length ≤ 100000) (h : RdC 4 hlrow w b o l) (h' : RdC 4 hlrow w b' o' l) :
    Calls Tryz.prog 15 #[.slice (some ⟨b, o, none⟩) l.length c, .slice (some ⟨b', o', none⟩) l.length c'] w fun e w' => e = .returned (.bool true) ∧ Nw w w' := by
  have H := Lib.hid (And.intro h h')
  clear h h'
  go_enter Tryz.func15, Tryz.ntmps15
  go_wp2
  go_loopw [5] (fun i wr => ∃ k : Nat, k ≤ l.length ∧ i = .int .i64 k ∧ Nw w wr) (fun i _ => l.length - (intOf i).toNat)
  case atStart => exact ⟨0, Nat.zero_le _, rfl, Nw.refl _⟩
  case round =>
    obtain ⟨k, hk, rfl, hG⟩ := hrel
    by_cases hlt : k < l.length
    · have hce := (H.out.1.nw hG).cell k hlt
      have hde := (H.out.2.nw hG).cell k hlt
      have hki : (k : Int) < (l.length : Int) := by omega
      generalize l[k] = s at *
      obtain ⟨s0, s1, s2, s3⟩ := s
      have c0 := hce 0 _ rfl
      have c1 := hce 1 _ rfl
      have c2 := hce 2 _ rfl
      have c3 := hce 3 _ rfl
      simp only [Nat.add_zero] at c0
      have d0 := hde 0 _ rfl
      have d1 := hde 1 _ rfl
      have d2 := hde 2 _ rfl
      have d3 := hde 3 _ rfl
      simp only [Nat.add_zero] at d0
      clear hce hde
      have HG := Lib.hid hG
      clear hG
      go_wp2_with fail
      go_quiet (fail)
      go_wp2
      go_roundw
      case rel => exact ⟨k + 1, by omega, by go_num, HG.out.drewN _⟩
      case measure => simp [intOf]; omega
    · have HG := Lib.hid hG
      clear hG
      go_wp2
      go_ret
      exact ⟨rfl, HG.out⟩
theorem sameL_none (a a' : Option Addr) (c c' : Nat) (w : World) : Calls Tryz.prog 15 #[.slice a 0 c, .slice a' 0 c'] w fun e w' => e = .returned (.bool true) ∧ Nw w w' := by
  go_enter Tryz.func15, Tryz.ntmps15
  go_wp2
  refine wp_loop_rounds 1 ?_
  repeat (rw [rounds_succ]; go_wp2)
  go_ret
  exact ⟨rfl, Nw.refl _⟩
abbrev HlAt (w : World) (v : Value) (l : List Hl) : Prop := Rd 4 hlrow w v l
theorem HlOwn.rd {w : World} {g0 : Nat} {v : Value} {l : List Hl} (h : HlOwn w g0 v l) : HlAt w v l := Own.rd elemHl.len h
theorem sameL_any (v v' : Value) (l : List Hl) (w : World) (hm : l.length ≤ 100000) (h : HlAt w v l) (h' : HlAt w v' l) : Calls Tryz.prog 15 #[v, v'] w fun e w' => e = .returned (.bool true) ∧ Nw w w' := by
  obtain ⟨a, c, rfl, ⟨rfl, _⟩ | ⟨b, o, rfl, hc⟩⟩ := h
  · obtain ⟨a', c', rfl, _⟩ := h'
    exact sameL_none a a' c c' w
  · obtain ⟨a', c', rfl, ⟨rfl, _⟩ | ⟨b', o', rfl, hc'⟩⟩ := h'
    · exact sameL_none _ a' c c' w
    · exact sameL_rows b o c b' o' c' l w hm hc hc'
/-! ### lives -/
theorem kit_DB (w : World) : Calls Tryz.prog 42 #[] w fun e w' => e = .returned (.agg #[.int .i64 (-1), .int .i64 (-1)]) ∧ Nw w w' := by
  go_enter Tryz.func42, Tryz.ntmps42
  go_wp2
  exact bodyPost_ret (v := .agg #[.int .i64 (-1), .int .i64 (-1)]) (by simp [results, Tryz.results42, go_sem, *]) rfl ⟨rfl, (Nw.refl w).alloc _⟩
theorem caps_law (w : World) : Calls Tryz.prog 40 #[] w fun e w' => e = .returned (.agg #[.int .i64 3, .int .i64 4, .int .i64 8, .int .i64 1]) ∧ Nw w w' := by
  go_enter Tryz.func40, Tryz.ntmps40
  go_wp2
  exact bodyPost_ret (v := .agg #[.int .i64 3, .int .i64 4, .int .i64 8, .int .i64 1]) (by simp [results, Tryz.results40, go_sem, *]) rfl ⟨rfl, (Nw.refl w).alloc _⟩
abbrev lv0 : List (List Hq) := List.replicate 3 []
abbrev lvL : List Bool := List.replicate 8 false
theorem liveT_a1 : askTR 4 lv0 lvL 3 (-1) 1 3 = (0, true, 0) := by kernel_rfl
theorem liveT_a2 : askTR 4 (askTS 4 lv0 lvL 3 (-1) 1 3).1 (askTS 4 lv0 lvL 3 (-1) 1 3).2 (-1) (-1) 1 1 = (1, true, 0) := by kernel_rfl
theorem liveT_h : hdsT (snapT (askTS 4 (askTS 4 lv0 lvL 3 (-1) 1 3).1 (askTS 4 lv0 lvL 3 (-1) 1 3).2 (-1) (-1) 1 1).1) 1 = [⟨1, -1, -1, 1⟩, ⟨1, 3, -1, 3⟩] := by kernel_rfl
theorem live_row (w : World) : HlAt (w.alloc (.cells #[.int .i64 1, .int .i64 (-1), .int .i64 (-1), .int .i64 1, .int .i64 1, .int .i64 3, .int .i64 (-1), .int .i64 3] 44)) (.slice (some ⟨w.heap.size, 0, none⟩) 2 2) [⟨1, -1, -1, 1⟩, ⟨1, 3, -1, 3⟩] := by
  have h := allocAt w (.cells #[.int .i64 1, .int .i64 (-1), .int .i64 (-1), .int .i64 1, .int .i64 1, .int .i64 3, .int .i64 (-1), .int .i64 3] 44)
  exact rd_block (l := ([⟨1, -1, -1, 1⟩, ⟨1, 3, -1, 3⟩] : List Hl)) elemHl.len h 2
/-- A table of the call's own: none of its blocks lies from a to b. -/
structure TaE (w : World) (o S n N k : Nat) (C : Cps) (hss : List (List Hq)) (L : List Bool) (a b : Nat) (W : World) : Prop where
  tab : ∃ J, Tab W o S n N k C hss L J ∧ (∀ j, J j → w.heap.size ≤ j) ∧ ∀ j, a ≤ j → j < b → ¬ J j
  nw : Nw w W
  lt : b ≤ W.heap.size
/-- What lies from a to b stays. -/
def KpA (a b : Nat) (W W' : World) : Prop := ∀ j, a ≤ j → j < b → W'.heap[j]? = W.heap[j]?
theorem KpA.refl (a b : Nat) (W : World) : KpA a b W W := fun _ _ _ => rfl
theorem KpA.trans {a b : Nat} {W W1 W2 : World} (h : KpA a b W W1) (k : KpA a b W1 W2) : KpA a b W W2 := fun j h1 h2 => (k j h1 h2).trans (h j h1 h2)
theorem KpA.nw {a b : Nat} {W W' : World} (g : Nw W W') (h : b ≤ W.heap.size) : KpA a b W W' := fun j _ h2 => g.block j (by omega)
section
variable {w W W' : World} {o S n N k : Nat} {C : Cps} {hss hss' : List (List Hq)} {L L' : List Bool} {a b : Nat}
theorem TaE.step (h : TaE w o S n N k C hss L a b W) (g : Nw W W') : TaE w o S n N k C hss L a b W' := by
  obtain ⟨J, h1, h2, h3⟩ := h.tab
  exact ⟨⟨J, h1.nw g, h2, h3⟩, h.nw.trans g, Nat.le_trans h.lt g.sz⟩
theorem TaE.ok (h : TaE w o S n N k C hss L a b W) : TbOk S n N k hss L := by
  obtain ⟨J, h1, h2, h3⟩ := h.tab
  exact h1.ok
/-- From here on, what was made since W stays. -/
theorem TaE.mark (h : TaE w o S n N k C hss L a b W) (g : Nw W W') : TaE w o S n N k C hss L W.heap.size W'.heap.size W' := by
  obtain ⟨J, h1, h2, h3⟩ := h.tab
  exact ⟨⟨J, h1.nw g, h2, fun j h4 _ h5 => by have := h1.lt j h5; omega⟩, h.nw.trans g, Nat.le_refl _⟩
theorem tae_to {J : Nat → Prop} {k' : Nat} (hw : Nw w W) (h2 : ∀ j, J j → w.heap.size ≤ j) (h3 : ∀ j, a ≤ j → j < b → ¬ J j) (hl : b ≤ W.heap.size) (d : TabTo W o S n N k' C hss' L' J W') : TaE w o S n N k' C hss' L' a b W' ∧ KpA a b W W' := by
  obtain ⟨J', k1, k2, k3⟩ := d
  have hws := hw.sz
  exact ⟨⟨⟨J', k1, fun j e => (k2 j e).elim (h2 j) (fun q => by omega), fun j h4 h5 e => (k2 j e).elim (h3 j h4 h5) (fun q => by omega)⟩, nw_tch hw k3 h2, Nat.le_trans hl k3.size⟩, fun j h4 h5 => k3.block j (by omega) (h3 j h4 h5)⟩
theorem ta_ask (h : TaE w o S n N k C hss L a b W) (hk : k ≤ 800) (hn : n ≤ 64) (hS : S ≤ 16) (t r txn m i : Int) (g : Bool) (E : Int) (hR : askTR n hss L t r txn m = (i, g, E)) :
    Calls Tryz.prog 34 #[.pointer (some ⟨o, 0, none⟩), .agg #[.int .i64 t, .int .i64 r], .int .i64 txn, .int .i64 m] W fun e W' => e = .returned (.tuple #[.int .i64 i, .bool g, .int .i64 E]) ∧ TaE w o S n N (k + 1) C (askTS n hss L t r txn m).1 (askTS n hss L t r txn m).2 a b W' ∧ KpA a b W W' := by
  obtain ⟨J, h1, h2, h3⟩ := h.tab
  refine (ask_t h1 hk hn hS t r txn m).mono ?_
  rintro e W' ⟨e1, d⟩
  rw [hR] at e1
  exact ⟨e1, tae_to h.nw h2 h3 h.lt d⟩
theorem ta_leave (h : TaE w o S n N k C hss L a b W) (hk : k ≤ 800) (hn : n ≤ 64) (hS : 0 < S) (id : Int) (hf : Fit id) (E : Int) (hE : (lvTR hss id).2 = E) :
    Calls Tryz.prog 35 #[.pointer (some ⟨o, 0, none⟩), .int .i64 id] W fun e W' => ∃ vi, e = .returned (.tuple #[vi, .int .i64 E]) ∧ IS W' vi (lvTR hss id).1 ∧ TaE w o S n N (k + 1) C (lvTS hss L id).1 (lvTS hss L id).2 a b W' ∧ KpA a b W W' ∧ ∀ j, vi.ownBlock = some j → W.heap.size ≤ j := by
  obtain ⟨J, h1, h2, h3⟩ := h.tab
  refine (leave_t h1 hk hn hS id hf).mono ?_
  rintro e W' ⟨vi, e1, hi, d, hv⟩
  rw [hE] at e1
  obtain ⟨k1, k2⟩ := tae_to h.nw h2 h3 h.lt d
  exact ⟨vi, e1, hi, k1, k2, hv⟩
theorem ta_abandon (h : TaE w o S n N k C hss L a b W) (hk : k ≤ 800) (hn : n ≤ 64) (hS : 0 < S) (id : Int) (hf : Fit id) (E : Int) (hE : (abTR hss id).2 = E) :
    Calls Tryz.prog 52 #[.pointer (some ⟨o, 0, none⟩), .int .i64 id] W fun e W' => ∃ vi, e = .returned (.tuple #[vi, .int .i64 E]) ∧ IS W' vi (abTR hss id).1 ∧ TaE w o S n N (k + 1) C (abTS hss L id).1 (abTS hss L id).2 a b W' ∧ KpA a b W W' ∧ ∀ j, vi.ownBlock = some j → W.heap.size ≤ j := by
  obtain ⟨J, h1, h2, h3⟩ := h.tab
  refine (abandon_t h1 hk hn hS id hf).mono ?_
  rintro e W' ⟨vi, e1, hi, d, hv⟩
  rw [hE] at e1
  obtain ⟨k1, k2⟩ := tae_to h.nw h2 h3 h.lt d
  exact ⟨vi, e1, hi, k1, k2, hv⟩
theorem ta_upgrade (h : TaE w o S n N k C hss L a b W) (hk : k ≤ 800) (hn : n ≤ 64) (hS : 0 < S) (id x : Int) (hf : Fit id) (g : Bool) (E : Int) (hG : upTG hss id x = g) (hE : upTE hss id x = E) :
    Calls Tryz.prog 48 #[.pointer (some ⟨o, 0, none⟩), .int .i64 id, .int .i64 x] W fun e W' => e = .returned (.tuple #[.bool g, .int .i64 E]) ∧ TaE w o S n N (k + 1) C (upTS hss id x) L a b W' ∧ KpA a b W W' := by
  obtain ⟨J, h1, h2, h3⟩ := h.tab
  refine (upgrade_t h1 hk hn hS id x hf).mono ?_
  rintro e W' ⟨e1, d⟩
  rw [hG, hE] at e1
  exact ⟨e1, tae_to h.nw h2 h3 h.lt d⟩
theorem ta_hand (h : TaE w o S n N k C hss L a b W) (hk : k ≤ 800) (hn : n ≤ 64) (hS : 0 < S) (id x : Int) (hf : Fit id) (E : Int) (hE : hnTE hss id x = E) :
    Calls Tryz.prog 54 #[.pointer (some ⟨o, 0, none⟩), .int .i64 id, .int .i64 x] W fun e W' => e = .returned (.int .i64 E) ∧ TaE w o S n N (k + 1) C (hnTS hss id x) L a b W' ∧ KpA a b W W' := by
  obtain ⟨J, h1, h2, h3⟩ := h.tab
  refine (hand_t h1 hk hn hS id x hf).mono ?_
  rintro e W' ⟨e1, d⟩
  rw [hE] at e1
  exact ⟨e1, tae_to h.nw h2 h3 h.lt d⟩
theorem ta_snap (h : TaE w o S n N k C hss L a b W) (hS : S ≤ 16) (hn : n ≤ 64) : Calls Tryz.prog 13 #[.pointer (some ⟨o, 0, none⟩)] W (HdPost W (snapT hss)) := by
  obtain ⟨J, h1, _⟩ := h.tab
  exact snapshot_t h1 hS hn
theorem ta_all (h : TaE w o S n N k C hss L a b W) (hS : S ≤ 16) (hn : n ≤ 64) : Calls Tryz.prog 18 #[.pointer (some ⟨o, 0, none⟩)] W (HlPost W (allT (snapT hss))) := by
  obtain ⟨J, h1, _⟩ := h.tab
  exact all_t h1 hS hn
theorem ta_holds (h : TaE w o S n N k C hss L a b W) (hS : S ≤ 16) (hn : n ≤ 64) (txn : Int) : Calls Tryz.prog 16 #[.pointer (some ⟨o, 0, none⟩), .int .i64 txn] W (HlPost W (hdsT (snapT hss) txn)) := by
  obtain ⟨J, h1, _⟩ := h.tab
  exact holds_t h1 hS hn txn
end
/-- After some calls. -/
def TaS (w : World) (o S n N k : Nat) (C : Cps) (a b : Nat) (W : World) : Prop := ∃ hss L, TaE w o S n N k C hss L a b W
theorem ta_new (w W : World) (g : Nw w W) (S n N : Nat) (p : Int) (h : CapsOk ⟨S, n, N, p⟩) : Calls Tryz.prog 9 #[.agg #[.int .i64 S, .int .i64 n, .int .i64 N, .int .i64 p]] W fun e W' => ∃ o, e = .returned (.tuple #[ptN o, .int .i64 0]) ∧ TaE w o S n N 0 ⟨S, n, N, p⟩ (List.replicate S []) (List.replicate N false) 0 0 W' := by
  refine (newT_d S n N p h W).mono ?_
  rintro e W' ⟨o, J, e1, h1, g2, h2⟩
  exact ⟨o, e1, ⟨⟨J, h1, fun j e => Nat.le_trans g.sz (h2 j e), fun j _ q => by omega⟩, g.trans g2, Nat.zero_le _⟩⟩
set_option maxRecDepth 20000 in
set_option maxHeartbeats 4000000 in
theorem lives_t (W : World) : Calls Tryz.prog 8 #[] W fun e w' => e = .returned (.bool true) ∧ Nw W w' := by
  have HW := Lib.hid (Nw.refl W)
  go_enter Tryz.func8, Tryz.ntmps8
  go_wp2_with fail
  refine (caps_law W).mono ?_
  rintro e w1 ⟨rfl, g1⟩
  have HN := Lib.hid (ta_new W w1 g1 3 4 8 1 (by decide))
  clear g1
  go_wp2_with fail
  refine HN.out.mono ?_
  rintro e w2 ⟨o, rfl, hT⟩
  have H2 := Lib.hid hT
  clear hT HN
  go_wp2_with fail
  refine (kit_T 3 w2).mono ?_
  rintro e w3 ⟨rfl, g3⟩
  have HA := Lib.hid (ta_ask (H2.out.step g3) (by omega) (by omega) (by omega) 3 (-1) 1 3 _ _ _ liveT_a1)
  clear g3 H2
  go_wp2_with fail
  refine HA.out.mono ?_
  rintro e w4 ⟨rfl, hT, _⟩
  have H4 := Lib.hid hT
  clear hT HA
  go_wp2_with fail
  refine (kit_DB w4).mono ?_
  rintro e w5 ⟨rfl, g5⟩
  have HA := Lib.hid (ta_ask (H4.out.step g5) (by omega) (by omega) (by omega) (-1) (-1) 1 1 _ _ _ liveT_a2)
  clear g5 H4
  go_wp2_with fail
  refine HA.out.mono ?_
  rintro e w6 ⟨rfl, hT, _⟩
  have hh := ta_holds hT (by omega) (by omega) 1
  rw [liveT_h] at hh
  have HH := Lib.hid hh
  have H6 := Lib.hid hT.nw
  clear hT HA hh
  go_wp2_with fail
  refine HH.out.mono ?_
  rintro e w7 ⟨v, rfl, hl, g7⟩
  obtain ⟨v0, v1, v2, hv⟩ : ∃ a b c, v = .slice a b c := by
    obtain ⟨a, c, e, _⟩ := HlOwn.rd hl
    exact ⟨_, _, _, e⟩
  subst hv
  have H7 := Lib.hid (And.intro (HlOwn.rd hl) (H6.out.trans g7))
  clear hl g7 HH H6
  go_wp2_with fail
  refine (kit_DB w7).mono ?_
  rintro e w8 ⟨rfl, g8⟩
  have H8 := Lib.hid (And.intro (H7.out.1.nw g8) (H7.out.2.trans g8))
  clear g8 H7
  go_wp2_with fail
  refine (kit_T 3 w8).mono ?_
  rintro e w9 ⟨rfl, g9⟩
  have gA : Nw w9 (w9.alloc (.cells #[.int .i64 1, .int .i64 (-1), .int .i64 (-1), .int .i64 1, .int .i64 1, .int .i64 3, .int .i64 (-1), .int .i64 3] 44)) := (Nw.refl w9).alloc _
  have HS := Lib.hid (sameL_any (.slice v0 v1 v2) (.slice (some ⟨w9.heap.size, 0, none⟩) 2 2) _ _ (by decide) (H8.out.1.nw (g9.trans gA)) (live_row w9))
  have H9 := Lib.hid (H8.out.2.trans (g9.trans gA))
  clear g9 gA H8
  go_wp2_with fail
  refine HS.out.mono ?_
  rintro e w10 ⟨rfl, g10⟩
  have HE := Lib.hid (H9.out.trans g10)
  clear g10 HS H9
  go_wp2
  go_ret
  exact ⟨rfl, HE.out⟩
end Go.Proofs.YtpffldfpabglbaaGreatDoor
end

/- The table laws: a call, whatever it is; what rows keep. -/
section
namespace Go.Proofs.YtpffldfpabglbaaGreatDoor
open Go.RowKit Go.Shelf
set_option linter.unusedVariables false      -- a contract need not use every name

set_option maxHeartbeats 4000000 in
theorem call_t {w W : World} {o S n N k a b : Nat} {C : Cps} (h : TaS w o S n N k C a b W) (hk : k ≤ 800) (hn : n ≤ 64) (hS0 : 0 < S) (hS : S ≤ 16) (a0 a1 a2 a3 a4 a5 : Int) (hf : Fit a3) :
    Calls Tryz.prog 29 #[.pointer (some ⟨o, 0, none⟩), .agg #[.int .i64 a0, .int .i64 a1, .int .i64 a2, .int .i64 a3, .int .i64 a4, .int .i64 a5]] W fun e W' => (∃ v, e = .returned v) ∧ TaS w o S n N (k + 1) C a b W' ∧ KpA a b W W' := by
  obtain ⟨hss, L, h⟩ := h
  have g1 : Nw W (W.alloc (.cells #[.int .i64 a0, .int .i64 a1, .int .i64 a2, .int .i64 a3, .int .i64 a4, .int .i64 a5] 37)) := (Nw.refl W).alloc _
  have hal := allocAt W (.cells #[.int .i64 a0, .int .i64 a1, .int .i64 a2, .int .i64 a3, .int .i64 a4, .int .i64 a5] 37)
  obtain ⟨z, hz⟩ : ∃ z, W.alloc (.cells #[.int .i64 a0, .int .i64 a1, .int .i64 a2, .int .i64 a3, .int .i64 a4, .int .i64 a5] 37) = z := ⟨_, rfl⟩
  rw [hz] at g1 hal
  have HZ := Lib.hid hz
  have H := Lib.hid (h.step g1)
  obtain ⟨⟨i, g, E⟩, hA⟩ : ∃ q, askTR n hss L a1 a2 a4 a5 = q := ⟨_, rfl⟩
  have HA := Lib.hid (ta_ask H.out hk hn hS a1 a2 a4 a5 i g E hA)
  have HU := Lib.hid (ta_upgrade H.out hk hn hS0 a3 a5 hf _ _ rfl rfl)
  have HL := Lib.hid (ta_leave H.out hk hn hS0 a3 hf _ rfl)
  have HB := Lib.hid (ta_abandon H.out hk hn hS0 a3 hf _ rfl)
  have HH := Lib.hid (ta_hand H.out hk hn hS0 a3 a4 hf _ rfl)
  have c0 := hcell (j := 0) hal
  have c1 := hcell (j := 1) hal
  have c2 := hcell (j := 2) hal
  have c3 := hcell (j := 3) hal
  have c4 := hcell (j := 4) hal
  have c5 := hcell (j := 5) hal
  have cl := hlt hal
  have HP := Lib.hid (pick_any a0 6 z (by omega) (by omega))
  obtain ⟨x, hx⟩ : ∃ x, a0 % 6 = x := ⟨_, rfl⟩
  rw [hx] at HP
  have HG := Lib.hid (KpA.nw (a := a) g1 h.lt)
  clear hz g1 hal h hA hf hx hk hn hS hS0
  generalize upTG hss a3 a5 = ug at *
  generalize upTE hss a3 a5 = ue at *
  generalize (lvTR hss a3).2 = le at *
  generalize (abTR hss a3).2 = ae at *
  generalize hnTE hss a3 a4 = he at *
  obtain ⟨d2, e2⟩ : ∃ d, (x == 2) = d := ⟨_, rfl⟩
  obtain ⟨d3, e3⟩ : ∃ d, (x == 3) = d := ⟨_, rfl⟩
  obtain ⟨d4, e4⟩ : ∃ d, (x == 4) = d := ⟨_, rfl⟩
  obtain ⟨d5, e5⟩ : ∃ d, (x == 5) = d := ⟨_, rfl⟩
  go_enter Tryz.func29, Tryz.ntmps29
  go_wp2_with fail
  rw [HZ.out]
  refine HP.out.mono ?_
  rintro e z' ⟨rfl, rfl⟩
  cases d2
  · cases d3
    · cases d4
      · cases d5
        · go_wp2_with fail
          refine HA.out.mono ?_
          rintro e y ⟨rfl, hb, hkp⟩
          have HE := Lib.hid (And.intro (show TaS w o S n N (k + 1) C a b y from ⟨_, _, hb⟩) (HG.out.trans hkp))
          clear hb hkp HA HU HL HB HH H HP HZ
          go_wp2
          exact bodyPost_end (results_none rfl _ _ _) rfl ⟨⟨_, rfl⟩, HE.out⟩
        · go_wp2_with fail
          refine HH.out.mono ?_
          rintro e y ⟨rfl, hb, hkp⟩
          have HE := Lib.hid (And.intro (show TaS w o S n N (k + 1) C a b y from ⟨_, _, hb⟩) (HG.out.trans hkp))
          clear hb hkp HA HU HL HB HH H HP HZ
          go_wp2
          exact bodyPost_end (results_none rfl _ _ _) rfl ⟨⟨_, rfl⟩, HE.out⟩
      · go_wp2_with fail
        refine HB.out.mono ?_
        rintro e y ⟨vi, rfl, _, hb, hkp, _⟩
        have HE := Lib.hid (And.intro (show TaS w o S n N (k + 1) C a b y from ⟨_, _, hb⟩) (HG.out.trans hkp))
        clear hb hkp HA HU HL HB HH H HP HZ
        go_wp2
        exact bodyPost_end (results_none rfl _ _ _) rfl ⟨⟨_, rfl⟩, HE.out⟩
    · go_wp2_with fail
      refine HL.out.mono ?_
      rintro e y ⟨vi, rfl, _, hb, hkp, _⟩
      have HE := Lib.hid (And.intro (show TaS w o S n N (k + 1) C a b y from ⟨_, _, hb⟩) (HG.out.trans hkp))
      clear hb hkp HA HU HL HB HH H HP HZ
      go_wp2
      exact bodyPost_end (results_none rfl _ _ _) rfl ⟨⟨_, rfl⟩, HE.out⟩
  · go_wp2_with fail
    refine HU.out.mono ?_
    rintro e y ⟨rfl, hb, hkp⟩
    have HE := Lib.hid (And.intro (show TaS w o S n N (k + 1) C a b y from ⟨_, _, hb⟩) (HG.out.trans hkp))
    clear hb hkp HA HU HL HB HH H HP HZ
    go_wp2
    exact bodyPost_end (results_none rfl _ _ _) rfl ⟨⟨_, rfl⟩, HE.out⟩
/-- Rows that lie from a to b stay. -/
theorem HdsAt.kpA {w w' : World} {o a b : Nat} {v : Value} {hs : List Hq} (h : HdsAt w o v hs) (k : KpA a b w w') (ha : a ≤ o) (hb : w.heap.size ≤ b) : HdsAt w' o v hs := h.keep fun j h1 h2 => k j (by omega) (by omega)
theorem HlOwn.kpA {w w' : World} {g0 a b : Nat} {v : Value} {l : List Hl} (h : HlOwn w g0 v l) (k : KpA a b w w') (ha : a ≤ g0) (hb : w.heap.size ≤ b) : HlOwn w' g0 v l := by
  refine ⟨h.1, ?_⟩
  rcases h.2 with hn | ⟨g, cap, cur, rfl, hg, hgg, rest⟩
  · exact .inl hn
  · exact .inr ⟨g, cap, cur, rfl, hg, (k g (by omega) (by have := (Array.getElem?_eq_some_iff.1 hgg).1; omega)).trans hgg, rest⟩
theorem HlOwn.nw' {w w' : World} {g0 : Nat} {v : Value} {l : List Hl} (h : HlOwn w g0 v l) (g : Nw w w') : HlOwn w' g0 v l := onw h g
end Go.Proofs.YtpffldfpabglbaaGreatDoor
end

/- Plain facts of buckets: what is asked for, and left at once, leaves names and requests as they were. Of no program. -/
section
namespace Go.Proofs.YtpffldfpabglbaaGreatDoor
set_option linter.unusedVariables false

theorem ask_rows (W : Int) (q : List Rq) (id txn m : Int) : ∃ z, z.id = id ∧ (askQ W q id txn m).2.1 = q ++ [z] := by
  unfold askQ
  split
  · exact ⟨_, rfl, rfl⟩
  · exact ⟨_, rfl, rfl⟩
theorem lv_back {q : List Rq} {z : Rq} (h : ∀ x ∈ q, x.id ≠ z.id) : lvQ z.id (q ++ [z]) = q := by
  unfold lvQ
  simp
  exact h
/-- Names and requests. -/
def nq (h : Hq) : (Int × Int) × List Rq := (nmH h, h.q)
theorem nq_put {hs : List Hq} (s : SrtH hs) {a x : Hq} (ha : a ∈ hs) (e : nq x = nq a) : (putH hs x).map nq = hs.map nq := by
  have hn : nmH x = nmH a := congrArg Prod.fst e
  obtain ⟨l, m, rfl, e2, _⟩ := put_at s ha hn
  rw [e2, List.map_append, List.map_append, List.map_cons, List.map_cons, e]
theorem put_over {hs : List Hq} (s : SrtH hs) {x y : Hq} (e : nmH x = nmH y) : putH (putH hs x) y = putH hs y := by
  obtain ⟨l, m, rfl, h1, h2⟩ := split_nm s (nmH x)
  have h1' : ∀ z ∈ l, nlt (nmH z) (nmH y) := fun z hz => by rw [← e]; exact h1 z hz
  rw [put_split h1, put_split h1', put_split h1']
  congr 1
  cases m with
  | nil =>
    show putH [x] y = [y]
    exact put_old e
  | cons a t =>
    have ha := h2 a (by simp)
    by_cases q : nmH a = nmH x
    · rw [put_old q, put_old (q.trans e), put_old e]
    · have hx : putH (a :: t) x = x :: a :: t := by
        show (if nlt (nmH a) (nmH x) then a :: putH t x else if nmH a = nmH x then x :: t else x :: a :: t) = _
        rw [if_neg ha, if_neg q]
      have hy : putH (a :: t) y = y :: a :: t := by
        show (if nlt (nmH a) (nmH y) then a :: putH t y else if nmH a = nmH y then y :: t else y :: a :: t) = _
        rw [← e, if_neg ha, if_neg q]
      rw [hx, hy]
      exact put_old e
theorem del_new {hs : List Hq} (s : SrtH hs) {x : Hq} (hn : ∀ a ∈ hs, nmH a ≠ nmH x) : delH (putH hs x) (nmH x) = hs := by
  obtain ⟨l, m, rfl, e, s2⟩ := put_no s hn
  rw [e]
  unfold delH
  rw [List.filter_append, List.filter_cons, if_neg (by simp), ← List.filter_append]
  refine List.filter_eq_self.2 fun a ha => ?_
  simpa using hn a ha
theorem ask_leave {most k : Nat} {hs : List Hq} {X : List Int} {L : List Bool} (b : BInv most k hs X L) (hk : k ≤ 1000) {t r txn m : Int} (he : askBE most hs L t r txn m = 0) :
    lvBR (askBS most hs L t r txn m).1 (fre L) = ([], 0) ∧ ((lvBS (askBS most hs L t r txn m).1 (askBS most hs L t r txn m).2 (fre L)).1).map nq = hs.map nq := by
  obtain ⟨h1, h2, h3, h4, h5⟩ := ask_get b hk he
  obtain ⟨d1, d2, d3, d4⟩ := b.hd t r
  obtain ⟨z, hz, hq⟩ := ask_rows (hdB hs t r).W (hdB hs t r).q (fre L) txn m
  have hno : ∀ x ∈ (hdB hs t r).q, x.id ≠ z.id := fun x hx e => by
    have h7 := b.mem (d4 x hx)
    rw [e, hz, fre_has] at h7
    cases h7
  have hl : lvQ (fre L) (askH hs L t r txn m).q = (hdB hs t r).q := by
    show lvQ (fre L) (askQ (hdB hs t r).W (hdB hs t r).q (fre L) txn m).2.1 = _
    rw [hq, ← hz]
    exact lv_back hno
  have hsc := scan_done d1.done
  have e1 : askBS most hs L t r txn m = (putH hs (askH hs L t r txn m), tkL L) := by unfold askBS; rw [if_pos he]
  refine ⟨?_, ?_⟩
  · unfold lvBR
    rw [h1]
    simp only
    rw [hl, hsc]
  · unfold lvBS
    rw [h1]
    simp only
    rw [hl, e1]
    simp only
    have hnm : nmH (askH hs L t r txn m) = (t, r) := rfl
    unfold endS
    have hs2 : (scH ⟨(askH hs L t r txn m).t, (askH hs L t r txn m).r, (askH hs L t r txn m).W, (hdB hs t r).q⟩).q = (hdB hs t r).q := by
      show (scanQ (hdB hs t r).q).2 = _
      rw [hsc]
    rw [hs2]
    cases e : getH hs (t, r) with
    | none =>
      have eh : hdB hs t r = ⟨t, r, 0, []⟩ := by unfold hdB; rw [e]; rfl
      rw [if_pos (by rw [eh])]
      have := del_new b.srt (x := askH hs L t r txn m) (get_none e)
      rw [show nmH (⟨(askH hs L t r txn m).t, (askH hs L t r txn m).r, (askH hs L t r txn m).W, (hdB hs t r).q⟩ : Hq) = nmH (askH hs L t r txn m) from rfl, this]
    | some h =>
      have eh : hdB hs t r = h := by unfold hdB; rw [e]; rfl
      obtain ⟨g1, g2⟩ := get_some e
      rw [if_neg (by rw [eh]; exact b.ne h g1), put_over b.srt (x := askH hs L t r txn m) (y := scH ⟨(askH hs L t r txn m).t, (askH hs L t r txn m).r, (askH hs L t r txn m).W, (hdB hs t r).q⟩) rfl]
      refine nq_put b.srt g1 ?_
      unfold nq
      have hn2 : nmH (scH ⟨(askH hs L t r txn m).t, (askH hs L t r txn m).r, (askH hs L t r txn m).W, (hdB hs t r).q⟩) = nmH h := g2.symm
      rw [hn2, hs2, eh]
end Go.Proofs.YtpffldfpabglbaaGreatDoor
end

/- Plain facts of tables: what is rejected, what is asked and left at once. -/
section
namespace Go.Proofs.YtpffldfpabglbaaGreatDoor
set_option linter.unusedVariables false

section
variable {S n N k : Nat} {hss : List (List Hq)} {L : List Bool}
theorem wthT_of {most k : Nat} (t : TbInv most k hss L) {i : Nat} (hi : i < hss.length) {id : Int} (h : id ∈ allIds hss[i]) : wthT hss id = i := by
  unfold wthT
  cases e : atT hss id with
  | none =>
    have := atT_none e _ (List.getElem_mem hi)
    rw [← of_is, this] at h
    cases h
  | some j =>
    obtain ⟨hj, h1, _⟩ := atT_some e
    exact t.one hj hi (of_is.1 h1) h
theorem snap_nq {A B : List (List Hq)} (hA : ApartN A.flatten) (hB : ApartN B.flatten) (h : A.map (List.map nq) = B.map (List.map nq)) : (snapT A).map nq = (snapT B).map nq := by
  have e : (A.flatten).map nq = (B.flatten).map nq := by rw [List.map_flatten, List.map_flatten, h]
  obtain ⟨sA, pA⟩ := snap_srt hA
  obtain ⟨sB, pB⟩ := snap_srt hB
  refine List.Perm.eq_of_pairwise (le := fun x y => nlt x.1 y.1) (fun x y _ _ h1 h2 => absurd (nlt_tr h1 h2) (nlt_irr _)) (List.pairwise_map.2 sA) (List.pairwise_map.2 sB) ?_
  exact (pA.map nq).trans (e ▸ (pB.map nq).symm)
def txN (s : List ((Int × Int) × List Rq)) : List Int := (s.flatMap fun h => h.2).foldl (fun l o => putL o.txn l) []
def hdsN (s : List ((Int × Int) × List Rq)) (txn : Int) : List Hl := (s.filter fun h => !(mdQ h.2 txn == 0)).map fun h => ⟨txn, h.1.1, h.1.2, mdQ h.2 txn⟩
theorem txN_of (s : List Hq) : txT s = txN (s.map nq) := by unfold txT txN; rw [List.flatMap_map]; rfl
theorem hdsN_of (s : List Hq) (txn : Int) : hdsT s txn = hdsN (s.map nq) txn := by
  unfold hdsT hdsN
  rw [List.filter_map, List.map_map]
  rfl
theorem all_nq {s u : List Hq} (h : s.map nq = u.map nq) : allT s = allT u := by
  unfold allT
  rw [txN_of, txN_of, h]
  congr 1
  funext txn
  rw [hdsN_of, hdsN_of, h]
theorem ask_rejT (ok : TbOk S n N k hss L) {t r txn m : Int} (he : (askTR n hss L t r txn m).2.2 ≠ 0) : askTS n hss L t r txn m = (hss, L) := by
  unfold askTR askTS at *
  by_cases h : ofS t r hss.length = -1
  · rw [if_pos h]
  · rw [if_neg h] at he ⊢
    have hr := ofS_range t r hss.length
    have hi : (ofS t r hss.length).toNat < hss.length := by omega
    have hne : askBE n (hsAt hss (ofS t r hss.length).toNat) L t r txn m ≠ 0 := fun e => by
      apply he
      unfold askBR
      rw [if_pos e]
    rw [(ask_rej hne).1, hsAt_get hi]
    simp
theorem ask_okT {t r txn m i : Int} {g : Bool} (he : askTR n hss L t r txn m = (i, g, 0)) : ofS t r hss.length ≠ -1 ∧ askBE n (hsAt hss (ofS t r hss.length).toNat) L t r txn m = 0 ∧ i = (fre L : Int) := by
  unfold askTR at he
  by_cases h : ofS t r hss.length = -1
  · rw [if_pos h] at he
    have := congrArg (fun x => x.2.2) he
    simp at this
  · rw [if_neg h] at he
    refine ⟨h, ?_⟩
    by_cases e : askBE n (hsAt hss (ofS t r hss.length).toNat) L t r txn m = 0
    · unfold askBR at he
      rw [if_pos e] at he
      exact ⟨e, (congrArg (fun x => x.1) he).symm⟩
    · rw [(ask_rej e).2.1] at he
      exact absurd (congrArg (fun x => x.2.2) he) e
theorem ask_room (ok : TbOk S n N k hss L) (hk : k ≤ 1000) (hS : S ≤ 16) {t r txn m i : Int} {g : Bool} (he : askTR n hss L t r txn m = (i, g, 0)) :
    i = (fre L : Int) ∧ lvTR (askTS n hss L t r txn m).1 i = ([], 0) ∧ (snapT (lvTS (askTS n hss L t r txn m).1 (askTS n hss L t r txn m).2 i).1).map nq = (snapT hss).map nq := by
  obtain ⟨h, e, rfl⟩ := ask_okT he
  have ok2 := ok.ask hS hk t r txn m
  have ok3 := fun hS0 => ok2.lv hS0 (fre L : Int)
  have hr := ofS_range t r hss.length
  have hi : (ofS t r hss.length).toNat < hss.length := by omega
  have eS : askTS n hss L t r txn m = (hss.set (ofS t r hss.length).toNat (askBS n (hsAt hss (ofS t r hss.length).toNat) L t r txn m).1, (askBS n (hsAt hss (ofS t r hss.length).toNat) L t r txn m).2) := by unfold askTS; rw [if_neg h]
  generalize (ofS t r hss.length).toNat = s at *
  rw [hsAt_get hi] at e eS
  have b := ok.inv.get hi
  obtain ⟨h1, h2⟩ := ask_leave b hk e
  obtain ⟨hg, hm, _⟩ := ask_get b hk e
  have hin : (fre L : Int) ∈ allIds (askBS n hss[s] L t r txn m).1 := of_is.1 (by rw [hg]; rfl)
  rw [eS] at ok2 ok3 ⊢
  simp only at ok2 ok3 ⊢
  have hi2 : s < (hss.set s (askBS n hss[s] L t r txn m).1).length := by rw [List.length_set]; exact hi
  have hw : wthT (hss.set s (askBS n hss[s] L t r txn m).1) (fre L : Int) = s := wthT_of ok2.inv hi2 (by rw [List.getElem_set_self]; exact hin)
  refine ⟨trivial, ?_, ?_⟩
  · unfold lvTR
    rw [hw, hsAt_get hi2, List.getElem_set_self]
    exact h1
  · have ok4 := ok3 (by rw [← ok.sl]; omega)
    unfold lvTS at ok4 ⊢
    rw [hw, hsAt_get hi2, List.getElem_set_self] at ok4 ⊢
    refine snap_nq ok4.apart ok.apart ?_
    simp only [List.set_set, List.map_set]
    rw [h2]
    apply List.ext_getElem?
    intro j
    rw [List.getElem?_set]
    split
    · rename_i ej
      subst ej
      rw [if_pos (by rw [List.length_map]; exact hi), List.getElem?_map, List.getElem?_eq_getElem hi]
      rfl
    · rfl
/-- There are no more heads than requests. -/
theorem TbOk.sumq (ok : TbOk S n N k hss L) : ((snapT hss).map fun h => h.q.length).sum = liv L := by
  rw [← ok.inv.count, ← flat_sum]
  exact (ok.snap_srt.2.map _).sum_nat
theorem sum_ge {s : List Hq} (h : ∀ x ∈ s, x.q ≠ []) : s.length ≤ (s.map fun h => h.q.length).sum := by
  induction s with
  | nil => simp
  | cons a t ih =>
    have h1 := ih (fun x hx => h x (List.mem_cons_of_mem _ hx))
    have h2 := List.length_pos_iff.2 (h a (by simp))
    simp only [List.length_cons, List.map_cons, List.sum_cons]
    omega
theorem TbOk.snap_ne (ok : TbOk S n N k hss L) : ∀ h ∈ snapT hss, h.q ≠ [] := fun h hh => by
  obtain ⟨l, hl, h2⟩ := List.mem_flatten.1 (ok.snap_srt.2.mem_iff.1 hh)
  exact (ok.inv.part l hl).ne h h2
theorem TbOk.liv_le (ok : TbOk S n N k hss L) : liv L ≤ N := by
  have : liv L ≤ L.length := List.countP_le_length
  rw [ok.ll] at this
  exact this
theorem TbOk.snap_len (ok : TbOk S n N k hss L) : (snapT hss).length ≤ N := Nat.le_trans (sum_ge ok.snap_ne) (ok.sumq ▸ ok.liv_le)
theorem TbOk.all_len (ok : TbOk S n N k hss L) : (allT (snapT hss)).length ≤ N := by
  rw [(all_perm ok.snap_srt.1 ok.snap_ok).length_eq, ← entF_all]
  exact entF_len (ok.sumq ▸ ok.liv_le)
end
end Go.Proofs.YtpffldfpabglbaaGreatDoor
end

/- TableRoom: the walk. -/
section
namespace Go.Proofs.YtpffldfpabglbaaGreatDoor.tableRoom
open Go.RowKit Go.Shelf
set_option linter.unusedVariables false      -- a contract need not use every name

theorem nq_at {s u : List Hq} (h : s.map nq = u.map nq) {k : Nat} (h1 : k < s.length) (h2 : k < u.length) : s[k].t = u[k].t ∧ s[k].r = u[k].r ∧ s[k].q = u[k].q := by
  have e : (s.map nq)[k]'(by simpa using h1) = (u.map nq)[k]'(by simpa using h2) := by simp only [h]
  simp only [List.getElem_map] at e
  have e1 := congrArg (fun x => x.1.1) e
  have e2 := congrArg (fun x => x.1.2) e
  have e3 := congrArg (fun x => x.2) e
  exact ⟨e1, e2, e3⟩
set_option maxRecDepth 100000 in
set_option maxHeartbeats 8000000 in
theorem walk (S n N : Nat) (p : Int) (hC : CapsOk ⟨S, n, N, p⟩) (v : Value) (l : List Cl) (A : Cl) (hA : A.ok) (w : World) (hl : Rd 6 clrow w v l) (hok : ∀ R ∈ l, Cl.ok R) (h0 : l.length ≤ 50) :
    Calls Tryz.prog 5 #[.agg #[.int .i64 S, .int .i64 n, .int .i64 N, .int .i64 p], v, clV A] w fun e w' => e = .returned (.bool true) ∧ Nw w w' := by
  obtain ⟨⟨s1, s2⟩, ⟨n1, n2⟩, ⟨N1, N2⟩, _⟩ := id hC
  simp only at s1 s2 n1 n2 N1 N2
  have HB := Lib.hid (And.intro (show 0 < S ∧ S ≤ 16 by omega) (And.intro (show n ≤ 64 by omega) (And.intro (show N ≤ 128 by omega) h0)))
  have HCo := Lib.hid hC
  have HL := Lib.hid (And.intro hl hok)
  obtain ⟨va, vc, rfl, _⟩ := hl
  have d0 : decide ((50 : Int) < (l.length : Int)) = false := by rw [decide_eq_false_iff_not]; omega
  obtain ⟨A0, A1, A2, A3, A4, A5⟩ := A
  unfold clV
  simp only
  have ha1 := allocAt w (.cells #[.int .i64 S, .int .i64 n, .int .i64 N, .int .i64 p] 23)
  have hsz : (w.alloc (.cells #[.int .i64 S, .int .i64 n, .int .i64 N, .int .i64 p] 23)).heap.size = w.heap.size + 1 := by simp
  have ha2 := allocAt (w.alloc (.cells #[.int .i64 S, .int .i64 n, .int .i64 N, .int .i64 p] 23)) (.cells #[.int .i64 A0, .int .i64 A1, .int .i64 A2, .int .i64 A3, .int .i64 A4, .int .i64 A5] 37)
  have ha3 := ((Nw.refl _).alloc (.cells #[.int .i64 A0, .int .i64 A1, .int .i64 A2, .int .i64 A3, .int .i64 A4, .int .i64 A5] 37)).at' ha1
  rw [hsz] at ha2
  obtain ⟨z, hz⟩ : ∃ z, (w.alloc (.cells #[.int .i64 S, .int .i64 n, .int .i64 N, .int .i64 p] 23)).alloc (.cells #[.int .i64 A0, .int .i64 A1, .int .i64 A2, .int .i64 A3, .int .i64 A4, .int .i64 A5] 37) = z := ⟨_, rfl⟩
  have hN0 : Nw w z := by rw [← hz]; exact ((Nw.refl w).alloc _).alloc _
  rw [hz] at ha2 ha3
  have HZ := Lib.hid hz
  have HX := Lib.hid (And.intro ha3 (And.intro ha2 hN0))
  clear hz ha1 ha2 ha3 hN0 hsz hok h0 hC s1 s2 n1 n2 N1 N2 hA
  go_enter Tryz.func5, Tryz.ntmps5
  go_wp2_with fail
  rw [HZ.out]
  refine (lives_t z).mono ?_
  rintro e w1 ⟨rfl, g1⟩
  have HG1 := Lib.hid g1
  have hb1 := g1.at' HX.out.1
  have c0 := hcell (j := 0) hb1
  have c1 := hcell (j := 1) hb1
  have c2 := hcell (j := 2) hb1
  have c3 := hcell (j := 3) hb1
  have cl := hlt hb1
  clear g1 hb1
  have HNe := Lib.hid (ta_new z w1 HG1.out S n N p HCo.out)
  go_wp2_with fail
  refine HNe.out.mono ?_
  rintro e w2 ⟨o, rfl, hT⟩
  have HS := Lib.hid (show TaS z o S n N 0 ⟨S, n, N, p⟩ 0 0 w2 from ⟨_, _, hT⟩)
  clear hT HG1 HNe c0 c1 c2 c3 cl
  go_wp2_with fail
  go_loopw [9] (fun vi wr => ∃ j : Nat, vi = .int .i64 j ∧ j ≤ l.length ∧ Hid (TaS z o S n N j ⟨S, n, N, p⟩ 0 0 wr)) (fun vi _ => l.length - (intOf vi).toNat)
  case atStart => exact ⟨0, rfl, Nat.zero_le _, HS⟩
  case round =>
    clear HS
    obtain ⟨j, rfl, hj, HK⟩ := hrel
    by_cases hjl : j < l.length
    · obtain ⟨a', c', e, ⟨q, _⟩ | ⟨b, ob, e2, hc⟩⟩ := HL.out.1
      · rw [q] at hjl; simp at hjl
      subst e2
      cases e
      have hwj : wrap64 ((j : Int) + 1) = (j : Int) + 1 := by have := HB.out.2.2.2; unfold wrap64; omega
      have hji : (j : Int) < (l.length : Int) := by omega
      obtain ⟨hs0, L0, hba⟩ := HK.out
      have hce := (hc.nw (HX.out.2.2.trans hba.nw)).cell j hjl
      have hwf := HL.out.2 _ (List.getElem_mem hjl)
      clear hba hc
      generalize l[j] = R at *
      obtain ⟨b0, b1, b2, b3, b4, b5⟩ := R
      have c0 := hce 0 _ rfl
      have c1 := hce 1 _ rfl
      have c2 := hce 2 _ rfl
      have c3 := hce 3 _ rfl
      have c4 := hce 4 _ rfl
      have c5 := hce 5 _ rfl
      simp only [Nat.add_zero] at c0
      have HC := Lib.hid (call_t HK.out (by have := HB.out.2.2.2; omega) HB.out.2.1 HB.out.1.1 HB.out.1.2 b0 b1 b2 b3 b4 b5 hwf.2.2.1)
      clear hce hwf HK
      go_wp2_with fail
      refine HC.out.mono ?_
      rintro e w3 ⟨⟨v3, rfl⟩, hs, _⟩
      have HK := Lib.hid hs
      clear hs HC c0 c1 c2 c3 c4 c5
      go_wp2_with fail
      go_roundw
      case rel => exact ⟨j + 1, congrArg (Value.int .i64) (by first | exact nxU j | exact hwj.trans (nxU j)), hjl, HK⟩
      case measure => first | exact downU l.length j hjl | (rw [hwj]; exact downU l.length j hjl)
    · obtain rfl : j = l.length := by omega
      obtain ⟨hss, L, hT⟩ := HK.out
      have HSn := Lib.hid (ta_snap hT HB.out.1.2 HB.out.2.1)
      have HT := Lib.hid hT
      clear hT HK hj hjl
      go_wp2_with fail
      refine HSn.out.mono ?_
      rintro e y1 ⟨v0, rfl, hh0, g1⟩
      obtain ⟨s0, s1, s2, hs0⟩ : ∃ a b c, v0 = .slice a b c := by
        rcases hh0.form with ⟨q, _⟩ | ⟨g, cap, q, _⟩
        · exact ⟨_, _, _, q⟩
        · exact ⟨_, _, _, q⟩
      subst hs0
      have HAl := Lib.hid (ta_all (HT.out.step g1) HB.out.1.2 HB.out.2.1)
      have H1 := Lib.hid (And.intro hh0 g1)
      clear hh0 g1 HSn
      go_wp2_with fail
      refine HAl.out.mono ?_
      rintro e y2 ⟨v1, rfl, hl1, g2⟩
      obtain ⟨t0, t1, t2, ht0⟩ : ∃ a b c, v1 = .slice a b c := by
        obtain ⟨a, c, e, _⟩ := HlOwn.rd hl1
        exact ⟨_, _, _, e⟩
      subst ht0
      have HT2 := Lib.hid (HT.out.mark (H1.out.2.trans g2))
      have HR2 := Lib.hid (And.intro (H1.out.1.nw g2) (And.intro hl1 H1.out.2.sz))
      clear hl1 g2 HAl H1
      obtain ⟨⟨i, g, E⟩, hR⟩ : ∃ q, askTR n hss L A1 A2 A4 A5 = q := ⟨_, rfl⟩
      have HAs := Lib.hid (ta_ask HT2.out (by have := HB.out.2.2.2; omega) HB.out.2.1 HB.out.1.2 A1 A2 A4 A5 i g E hR)
      have HR := Lib.hid hR
      have hbx := HT2.out.nw.at' HX.out.2.1
      have c0 := hcell (j := 0) hbx
      have c1 := hcell (j := 1) hbx
      have c2 := hcell (j := 2) hbx
      have c3 := hcell (j := 3) hbx
      have c4 := hcell (j := 4) hbx
      have c5 := hcell (j := 5) hbx
      have cl := hlt hbx
      clear hbx hR
      go_wp2_with fail
      refine HAs.out.mono ?_
      rintro e y3 ⟨rfl, hT3, k3⟩
      have HR3 := Lib.hid (show HdsAt y3 wr.heap.size (.slice s0 s1 s2) (snapT hss) ∧ HlOwn y3 y1.heap.size (.slice t0 t1 t2) (allT (snapT hss)) from ⟨HR2.out.1.kpA k3 (Nat.le_refl _) (Nat.le_refl _), HR2.out.2.1.kpA k3 HR2.out.2.2 (Nat.le_refl _)⟩)
      have HT3 := Lib.hid hT3
      clear hT3 HAs c0 c1 c2 c3 c4 c5 cl
      by_cases hE : E = 0
      · subst hE
        obtain ⟨hif, hlv, hnq⟩ := ask_room HT.out.ok (by have := HB.out.2.2.2; omega) HB.out.1.2 HR.out
        have hfi : Fit i := by rw [hif]; exact fit_fre (by rw [HT.out.ok.ll]; exact HB.out.2.2.1)
        have hlr := ta_leave HT3.out (by have := HB.out.2.2.2; omega) HB.out.2.1 HB.out.1.1 i hfi 0 (by rw [hlv])
        rw [hlv] at hlr
        have HLv := Lib.hid hlr
        have HNq := Lib.hid hnq
        clear hif hlv hnq hfi hlr HT3
        go_wp2_with fail
        refine HLv.out.mono ?_
        rintro e y4 ⟨vi, rfl, his, hT4, k4, _⟩
        obtain ⟨i0, ic, hvi⟩ : ∃ a c, vi = .slice a 0 c := by
          rcases oform his with ⟨q, _⟩ | ⟨g, cap, q⟩
          · exact ⟨_, _, q⟩
          · exact ⟨_, _, q⟩
        subst hvi
        have HR4 := Lib.hid (show HdsAt y4 wr.heap.size (.slice s0 s1 s2) (snapT hss) ∧ HlOwn y4 y1.heap.size (.slice t0 t1 t2) (allT (snapT hss)) from ⟨HR2.out.1.kpA (k3.trans k4) (Nat.le_refl _) (Nat.le_refl _), HR2.out.2.1.kpA (k3.trans k4) HR2.out.2.2 (Nat.le_refl _)⟩)
        have HT4 := Lib.hid hT4
        have HSn := Lib.hid (ta_snap hT4 HB.out.1.2 HB.out.2.1)
        clear his hT4 k4 k3 HLv HR3
        go_wp2_with fail
        refine HSn.out.mono ?_
        rintro e y5 ⟨v2, rfl, hh2, g5⟩
        obtain ⟨lm2, ⟨⟨a2, c2, rfl, hr2⟩, hq2⟩, he2⟩ := hh2.rd
        obtain ⟨lm0, ⟨⟨a0, c0, e0, hr0⟩, hq0⟩, he0⟩ := (HR4.out.1.nw g5).rd
        simp only [Value.slice.injEq] at e0
        obtain ⟨rfl, rfl, rfl⟩ := e0
        have hle : lm2.length = lm0.length := by
          have := congrArg List.length HNq.out
          rw [List.length_map, List.length_map, ← he2, ← he0, List.length_map, List.length_map] at this
          exact this
        have HLm := Lib.hid (show (lm2.map Hm.h).map nq = (lm0.map Hm.h).map nq by rw [he2, he0]; exact HNq.out)
        have HD := Lib.hid (And.intro hr2 (And.intro hq2 (And.intro hr0 hq0)))
        have HLe := Lib.hid hle
        have HT5 := Lib.hid (HT4.out.step g5)
        have HR5 := Lib.hid (HR4.out.2.nw' g5)
        have hlb : lm0.length ≤ 1000 := by have h1 := HT.out.ok.snap_len; have h2 := HB.out.2.2.1; rw [← he0, List.length_map] at h1; omega
        clear hh2 g5 hr2 hq2 hr0 hq0 he2 he0 hle HSn HR4 HT4
        rw [HLe.out]
        go_wp2_with fail
        go_loopw [18] (fun vi wr => ∃ k : Nat, vi = .int .i64 k ∧ k ≤ lm0.length ∧ Hid (Nw y5 wr)) (fun vi _ => lm0.length - (intOf vi).toNat)
        case atStart => exact ⟨0, rfl, Nat.zero_le _, Nw.refl _⟩
        case round =>
          obtain ⟨k, rfl, hk, HG⟩ := hrel
          by_cases hlt : k < lm0.length
          · have hlt2 : k < lm2.length := by rw [HLe.out]; exact hlt
            rcases HD.out.1 with ⟨q, _⟩ | ⟨b, ob, rfl, hc⟩
            · rw [q] at hlt2; simp at hlt2
            rcases HD.out.2.2.1 with ⟨q, _⟩ | ⟨b', ob', rfl, hc'⟩
            · rw [q] at hlt; simp at hlt
            have hce := (hc.nw HG.out).cell k hlt2
            have hde := (hc'.nw HG.out).cell k hlt
            have hki : (k : Int) < (lm0.length : Int) := by omega
            have hx := HD.out.2.1 _ (List.getElem_mem hlt2)
            have hy := HD.out.2.2.2 _ (List.getElem_mem hlt)
            obtain ⟨q1, q2, q3⟩ := nq_at HLm.out (k := k) (by rw [List.length_map]; exact hlt2) (by rw [List.length_map]; exact hlt)
            simp only [List.getElem_map] at q1 q2 q3
            have hwk : wrap64 ((k : Int) + 1) = (k : Int) + 1 := by unfold wrap64; omega
            clear hc hc'
            generalize lm2[k] = x at *
            generalize lm0[k] = y at *
            obtain ⟨⟨xt, xr, xW, xq⟩, xa, xc⟩ := x
            obtain ⟨⟨yt, yr, yW, yq⟩, ya, yc⟩ := y
            simp only at q1 q2 q3
            subst q1 q2 q3
            have HSq := Lib.hid (fun z (g : Nw y5 z) => sameQ_any _ _ _ z hx.2 (hx.1.nw g) (hy.1.nw g))
            unfold hmV at HSq
            simp only at HSq
            have C0 : ∀ d : Wd (fun z => Nw wr z), d.w.cell? ⟨b, ob + k * 4, none⟩ = some (.int .i64 xt) := fun d => d.h.kp (hce 0 _ rfl)
            have C1 : ∀ d : Wd (fun z => Nw wr z), d.w.cell? ⟨b, ob + k * 4 + 1, none⟩ = some (.int .i64 xr) := fun d => d.h.kp (hce 1 _ rfl)
            have C2 : ∀ d : Wd (fun z => Nw wr z), d.w.cell? ⟨b, ob + k * 4 + 2, none⟩ = some (.slice xa xq.length xc) := fun d => d.h.kp (hce 2 _ rfl)
            have D0 : ∀ d : Wd (fun z => Nw wr z), d.w.cell? ⟨b', ob' + k * 4, none⟩ = some (.int .i64 xt) := fun d => d.h.kp (hde 0 _ rfl)
            have D1 : ∀ d : Wd (fun z => Nw wr z), d.w.cell? ⟨b', ob' + k * 4 + 1, none⟩ = some (.int .i64 xr) := fun d => d.h.kp (hde 1 _ rfl)
            have D2 : ∀ d : Wd (fun z => Nw wr z), d.w.cell? ⟨b', ob' + k * 4 + 2, none⟩ = some (.slice ya xq.length yc) := fun d => d.h.kp (hde 2 _ rfl)
            have hne : Nonempty (Wd (fun z => Nw wr z)) := ⟨⟨_, Nw.refl _⟩⟩
            generalize xq.length = ql at *
            clear hce hde hx hy
            go_wp2_with fail
            refine region_in (fun z => Nw wr z) (by kernel_rfl) (by kernel_rfl) (Nw.refl wr).dr ?_
            repeat (first | go_big_quiet_step ((exact quietN (fun a b h g => h.trans g) (HSq.out _ (HG.out.trans (Wd.h _))))) | quiet_step ((exact quietN (fun a b h g => h.trans g) (HSq.out _ (HG.out.trans (Wd.h _))))))
            refine wpQuiet_nil ?_
            intro d
            go_wp2
            go_roundw
            case rel => exact ⟨k + 1, congrArg (Value.int .i64) (by first | exact nxU k | exact hwk.trans (nxU k)), hlt, HG.out.trans d.h⟩
            case measure => first | exact downU lm0.length k hlt | (rw [hwk]; exact downU lm0.length k hlt)
          · obtain rfl : k = lm0.length := by omega
            have HT6 := Lib.hid (HT5.out.step HG.out)
            have HR6 := Lib.hid (HR5.out.nw' HG.out)
            have hal := ta_all HT6.out HB.out.1.2 HB.out.2.1
            rw [all_nq HNq.out] at hal
            have HAl := Lib.hid hal
            clear hal HG HT5 HR5
            go_wp2_with fail
            refine HAl.out.mono ?_
            rintro e y6 ⟨v3, rfl, hl3, g6⟩
            obtain ⟨w0, w1', w2', hw0⟩ : ∃ a b c, v3 = .slice a b c := by
              obtain ⟨a, c, e, _⟩ := HlOwn.rd hl3
              exact ⟨_, _, _, e⟩
            subst hw0
            have hla : (allT (snapT hss)).length ≤ 100000 := by have := HT.out.ok.all_len; have := HB.out.2.2.1; omega
            have HSm := Lib.hid (sameL_any _ _ _ _ hla (HlOwn.rd hl3) (HlOwn.rd (HR6.out.nw' g6)))
            have HT7 := Lib.hid (HT6.out.step g6)
            clear hl3 g6 HAl HT6 HR6 hla
            go_wp2_with fail
            refine HSm.out.mono ?_
            rintro e y7 ⟨rfl, g7⟩
            have HE := Lib.hid (HX.out.2.2.trans (HT7.out.nw.trans g7))
            clear g7 HSm HT7
            go_wp2
            go_ret
            exact ⟨rfl, HE.out⟩
      · have dE : (E == 0) = false := by simpa using hE
        have hsame := ask_rejT (n := n) (t := A1) (r := A2) (txn := A4) (m := A5) HT.out.ok (by rw [HR.out]; exact hE)
        have hT4 := HT3.out
        rw [hsame] at hT4
        have HT4 := Lib.hid hT4
        have HSn := Lib.hid (ta_snap hT4 HB.out.1.2 HB.out.2.1)
        clear hT4 hsame HT3 hE
        go_wp2_with fail
        refine HSn.out.mono ?_
        rintro e y4 ⟨v2, rfl, hh2, g4⟩
        obtain ⟨u0, u1, u2, hu0⟩ : ∃ a b c, v2 = .slice a b c := by
          rcases hh2.form with ⟨q, _⟩ | ⟨g, cap, q, _⟩
          · exact ⟨_, _, _, q⟩
          · exact ⟨_, _, _, q⟩
        subst hu0
        have hln : (snapT hss).length ≤ 1000 := by have := HT.out.ok.snap_len; have := HB.out.2.2.1; omega
        have HSm := Lib.hid (sameHs_any hln hh2 (HR3.out.1.nw g4))
        have HT5 := Lib.hid (HT4.out.step g4)
        have HR5 := Lib.hid (HR3.out.2.nw' g4)
        clear hln hh2 g4 HSn HT4 HR3
        go_wp2_with fail
        refine HSm.out.mono ?_
        rintro e y5 ⟨rfl, g5⟩
        have HAl := Lib.hid (ta_all (HT5.out.step g5) HB.out.1.2 HB.out.2.1)
        have HT6 := Lib.hid (HT5.out.step g5)
        have HR6 := Lib.hid (HR5.out.nw' g5)
        clear g5 HSm HT5 HR5
        go_wp2_with fail
        refine HAl.out.mono ?_
        rintro e y6 ⟨v3, rfl, hl3, g6⟩
        obtain ⟨w0, w1', w2', hw0⟩ : ∃ a b c, v3 = .slice a b c := by
          obtain ⟨a, c, e, _⟩ := HlOwn.rd hl3
          exact ⟨_, _, _, e⟩
        subst hw0
        have hla : (allT (snapT hss)).length ≤ 100000 := by have := HT.out.ok.all_len; have := HB.out.2.2.1; omega
        have HSm := Lib.hid (sameL_any _ _ _ _ hla (HlOwn.rd hl3) (HlOwn.rd (HR6.out.nw' g6)))
        have HT7 := Lib.hid (HT6.out.step g6)
        clear hl3 g6 HAl HT6 HR6 hla
        go_wp2_with fail
        refine HSm.out.mono ?_
        rintro e y7 ⟨rfl, g7⟩
        have HE := Lib.hid (HX.out.2.2.trans (HT7.out.nw.trans g7))
        clear g7 HSm HT7
        go_wp2
        go_ret
        exact ⟨rfl, HE.out⟩
end Go.Proofs.YtpffldfpabglbaaGreatDoor.tableRoom
end

/- TableRoom: whatever the arguments are. -/
section
namespace Go.Proofs.YtpffldfpabglbaaGreatDoor.tableRoom
open Go.RowKit Go.Shelf
set_option linter.unusedVariables false

set_option maxRecDepth 100000 in
set_option maxHeartbeats 4000000 in
theorem walk_bad (C : Cps) (h : ¬ CapsOk C) (v : Value) (l : List Cl) (A : Cl) (w : World) (hl : Rd 6 clrow w v l) (h0 : l.length ≤ 50) :
    Calls Tryz.prog 5 #[capV C, v, clV A] w fun e w' => e = .returned (.bool true) ∧ Nw w w' := by
  obtain ⟨va, vc, rfl, _⟩ := hl
  have d0 : decide ((50 : Int) < (l.length : Int)) = false := by rw [decide_eq_false_iff_not]; omega
  have HNe := Lib.hid (fun W => newT_bad C h W)
  obtain ⟨S, n, N, p⟩ := C
  obtain ⟨A0, A1, A2, A3, A4, A5⟩ := A
  unfold clV
  unfold capV at *
  simp only at HNe ⊢
  have ha1 := allocAt w (.cells #[.int .i64 S, .int .i64 n, .int .i64 N, .int .i64 p] 23)
  have ha3 := ((Nw.refl _).alloc (.cells #[.int .i64 A0, .int .i64 A1, .int .i64 A2, .int .i64 A3, .int .i64 A4, .int .i64 A5] 37)).at' ha1
  obtain ⟨z, hz⟩ : ∃ z, (w.alloc (.cells #[.int .i64 S, .int .i64 n, .int .i64 N, .int .i64 p] 23)).alloc (.cells #[.int .i64 A0, .int .i64 A1, .int .i64 A2, .int .i64 A3, .int .i64 A4, .int .i64 A5] 37) = z := ⟨_, rfl⟩
  have hN0 : Nw w z := by rw [← hz]; exact ((Nw.refl w).alloc _).alloc _
  rw [hz] at ha3
  have HZ := Lib.hid hz
  have HX := Lib.hid (And.intro ha3 hN0)
  clear hz ha1 ha3 hN0 h0 h
  go_enter Tryz.func5, Tryz.ntmps5
  go_wp2_with fail
  rw [HZ.out]
  refine (lives_t z).mono ?_
  rintro e w1 ⟨rfl, g1⟩
  have HG1 := Lib.hid g1
  have hb1 := g1.at' HX.out.1
  have c0 := hcell (j := 0) hb1
  have c1 := hcell (j := 1) hb1
  have c2 := hcell (j := 2) hb1
  have c3 := hcell (j := 3) hb1
  have cl := hlt hb1
  clear g1 hb1
  go_wp2_with fail
  refine (HNe.out w1).mono ?_
  rintro e w2 ⟨rfl, g2⟩
  have HE := Lib.hid (HX.out.2.trans (HG1.out.trans g2))
  clear g2 HG1
  go_wp2
  go_ret
  exact ⟨rfl, HE.out⟩
set_option maxRecDepth 100000 in
set_option maxHeartbeats 2000000 in
theorem law_any (a b c d : Int) (v : Value) (l : List Cl) (A : Cl) (w : World) (hl : Rd 6 clrow w v l) (hok : ∀ R ∈ l, Cl.ok R) (hA : A.ok) :
    Calls Tryz.prog 5 #[.agg #[.int .i64 a, .int .i64 b, .int .i64 c, .int .i64 d], v, clV A] w fun e w' => e = .returned (.bool true) ∧ Nw w w' := by
  by_cases h : l.length ≤ 50
  · by_cases hC : CapsOk ⟨a, b, c, d⟩
    · obtain ⟨⟨s1, s2⟩, ⟨n1, n2⟩, ⟨N1, N2⟩, _⟩ := id hC
      simp only at s1 n1 N1
      obtain ⟨S, rfl⟩ := Int.eq_ofNat_of_zero_le (show 0 ≤ a by omega)
      obtain ⟨n, rfl⟩ := Int.eq_ofNat_of_zero_le (show 0 ≤ b by omega)
      obtain ⟨N, rfl⟩ := Int.eq_ofNat_of_zero_le (show 0 ≤ c by omega)
      exact walk S n N d hC v l A hA w hl hok h
    · exact walk_bad ⟨a, b, c, d⟩ hC v l A w hl h
  · obtain ⟨va, vc, rfl, _⟩ := hl
    have d0 : decide ((50 : Int) < (l.length : Int)) = true := by rw [decide_eq_true_eq]; omega
    have HN := Lib.hid (Nw.refl w)
    obtain ⟨A0, A1, A2, A3, A4, A5⟩ := A
    unfold clV
    clear h hok hA
    have HG := Lib.hid (((Nw.refl w).alloc (.cells #[.int .i64 a, .int .i64 b, .int .i64 c, .int .i64 d] 23)).alloc (.cells #[.int .i64 A0, .int .i64 A1, .int .i64 A2, .int .i64 A3, .int .i64 A4, .int .i64 A5] 37))
    go_enter Tryz.func5, Tryz.ntmps5
    go_wp2_with fail
    refine (lives_t _).mono ?_
    rintro e w1 ⟨rfl, g1⟩
    have HG1 := Lib.hid (HG.out.trans g1)
    clear g1 HG
    go_wp2_with fail
    go_ret
    exact ⟨rfl, HG1.out⟩
end Go.Proofs.YtpffldfpabglbaaGreatDoor.tableRoom
end
