/- ModeGroups returns true for every list of integers and every two integers. No condition. -/
import Derived.Test.YtcmdcbpbfjpnpaaRows
import Derived.WalkKit
import Derived.ProofKit
import Derived.OpenShut
import Derived.ShutString
import Derived.ChangeOld
import Derived.Below
import Derived.Test.YtcmdcbpbfjpnpaaModeG
namespace Go.Proofs.Ytcmdcbpbfjpnpaa.modeGroups
open Go.ChangeShapes Go.WideShapes Go.ChangeAt Go.RowKit
open Go.ChangeMaps (open_string shut_string)
set_option linter.unusedVariables false      -- a walk need not use every w

theorem own : ownKnob Try.prog.godebug = none := by kernel_rfl
theorem laidOut : laidOutB Try.prog = true := by kernel_rfl

/-- WHAT THE WALK IS TOLD OF A SLICE OF INTEGERS THAT CAME IN: it is nil; or it leads to a row of 'cap' cells, the numbers 'zs' (the first 'len' are its elements, the rest its spare room), each fitting its kind. -/
def IsRow (k : IntKind) (w : World) (a : Option Addr) (len cap : Nat) (zs : List Int) : Prop :=
  (a = none ∧ len = 0 ∧ cap = 0 ∧ zs = []) ∨
  ∃ x, a = some x ∧ len ≤ cap ∧ cap ≤ maxLen ∧ zs.length = cap ∧ (∀ i, i < zs.length → w.cell? (x.add i) = some (.int k (zs.getD i 0))) ∧ ∀ n ∈ zs, (Lit.int k n).wf = true

theorem modeInfo : (Try.prog.info? 23).map (fun i => (i.zero, i.size, i.bytes)) = some (some (.int .i64 0), 1, 8) := by kernel_rfl

/-- The modes that the statement makes of the first n numbers. -/
def modes (zs : List Int) (n : Nat) : List Int := (zs.take n).map (· % 7)
theorem modes_length (zs : List Int) (n : Nat) (h : n ≤ zs.length) : (modes zs n).length = n := by simp [modes]; omega
theorem modes_at (zs : List Int) (n k : Nat) (h : n ≤ zs.length) (hk : k < n) : (modes zs n)[k]? = some (zs.getD k 0 % 7) := by
  have h1 : k < zs.length := by omega
  simp [modes, hk, h1]
theorem modes_md (zs : List Int) (n : Nat) : ∀ z ∈ modes zs n, Md z := by
  intro z hz
  simp only [modes, List.mem_map] at hz
  obtain ⟨y, _, rfl⟩ := hz
  exact ⟨by omega, by omega⟩

theorem pick_val (n v : Int) (w : World) (h : n % 7 = v) :
    Calls Try.prog 19 #[.int .i64 n, .int .i64 7] w fun e w' => e = .returned (.int .i64 v) ∧ w = w' := by
  subst h; exact pick_any n 7 w (by decide) (by decide)
theorem pick_len (n v : Int) (k : Nat) (w : World) (hk : 0 < k) (hk' : k ≤ 20) (h : n % (k : Int) = v) :
    Calls Try.prog 19 #[.int .i64 n, .int .i64 k] w fun e w' => e = .returned (.int .i64 v) ∧ w = w' := by
  subst h; exact pick_any n k w (by omega) (by omega)

theorem take_snoc' (l : List Int) (k : Nat) (z : Int) (h : l[k]? = some z) : l.take (k + 1) = l.take k ++ [z] := by
  obtain ⟨hk, e⟩ := List.getElem?_eq_some_iff.1 h
  rw [List.take_succ_eq_append_getElem hk, e]

set_option maxHeartbeats 4000000 in
theorem way (b off cap n t : Nat) (zs A C : List Int) (turn more m g : Int) (w : World) (hn : 0 < n) (hn' : n ≤ 20) (hb : b < w.heap.size)
    (hc : ∀ j, j < n → w.cell? ⟨b, off + j, none⟩ = some (.int .i64 (zs.getD j 0)))
    (eA : ∀ j, j < n → A[j]? = some (zs.getD j 0 % 7)) (eC : ∀ j, j < n → C[j]? = some (zs.getD ((j + t) % n) 0 % 7)) (lA : A.length = n) (lC : C.length = n)
    (mA : ∀ z ∈ A, Md z) (mC : ∀ z ∈ C, Md z) (et : Hid (turn % (n : Int) = t)) (ht : t < n) (em : Hid (more % 7 = m)) (hm : Md m) (pall : Bool) (s : Int)
    (eg : Hid (grpT A = g)) (hgm : Md g) (eg2 : Hid (grpT C = g)) (eg3 : Hid (grpT (C ++ A) = g)) (es : Hid (grpT (A ++ [m]) = s)) (es2 : Hid (supT g m = s)) (ep : Hid (A.all (covT m) = pall)) (ep2 : Hid (covT m g = pall)) (hcv : ∀ z ∈ A, covT g z = true) :
    Calls Try.prog 7 #[.slice (some ⟨b, off, none⟩) n cap, .int .i64 turn, .int .i64 more] w fun e w' => e = .returned (.bool true) ∧ Below w.heap.size w w' := by
  obtain ⟨i0, hi, hz0, hz1, hz2⟩ := info_parts modeInfo
  go_enter Try.func7, Try.ntmps7
  go_wp2_with fail
  refine (lives_ok _).mono ?_
  rintro e w1 ⟨rfl, hg⟩
  go_wp2
  go_loopw [7, 8, 10] (fun va vb i wr => ∃ k : Nat, k ≤ n ∧ i = .int .i64 k ∧ wr.ownsRow w.heap.size 23 1 va k ((A.take k).map (Value.int .i64)) ∧ wr.ownsRow w.heap.size 23 1 vb k ((C.take k).map (Value.int .i64)) ∧ Apart va vb ∧ Below w.heap.size w wr) (fun _ _ i _ => n - (intOf i).toNat)
  case atStart => exact ⟨0, Nat.zero_le _, rfl, World.ownsRow_nil _ _ _ _, World.ownsRow_nil _ _ _ _, fun g h => (by cases h), hg⟩
  case round =>
    obtain ⟨k, hk, rfl, hoa, hob, hap, hw⟩ := hrel
    by_cases h : k < n
    · have hcell : wr.cell? ⟨b, off + k, none⟩ = some (.int .i64 (zs.getD k 0)) := (hw.cell (by exact hb)).trans (hc k h)
      generalize hz : zs.getD k 0 = z at *
      go_wp2_with fail
      refine (pick_val z (z % 7) _ rfl).mono ?_
      rintro e w' ⟨rfl, rfl⟩
      have hsz := hw.size
      go_wp2_with (at_builtin; refine wpList_append_fresh _ rfl (.tmp 27) (.tmp 33) 28 rfl w.heap.size 23 i0 (.int .i64 0) 1 8 Try.underlying28 hi hz0 hz1 hz2 rfl (by decide) u7 k _ rfl (hoa.alloc _) ⟨wr.heap.size, 0, none⟩ 1 1 [.int .i64 (z % 7)] rfl rfl (by intro t u ht; match t, ht with | 0, ht => simp at ht; subst ht; simp [Addr.add]) (by intro u hu; simp at hu; subst hu; rfl) (by unfold maxLen; omega) (by omega) (by simp; omega) ?_; intro v1 w2 hown1 hgrow1 hfr1)
      obtain ⟨hob1, hap1, hw1⟩ := step_app hsz hoa hob hap hw hgrow1 hfr1
      have hown1' : w2.ownsRow w.heap.size 23 1 v1 (k + 1) ((A.take (k + 1)).map (Value.int .i64)) := by
        rw [take_snoc' A k (z % 7) (by rw [eA k h, hz])]; simpa using hown1
      clear hown1 hgrow1 hfr1 hoa hob hap hw hcell hz
      refine (pick_len turn t n _ hn hn' et.out).mono ?_
      rintro e w' ⟨rfl, rfl⟩
      obtain ⟨q, hq⟩ : ∃ q : Nat, q = (k + t) % n := ⟨_, rfl⟩
      have hqn : q < n := by rw [hq]; exact Nat.mod_lt _ hn
      have hqi : ((k : Int) + (t : Int)) % (n : Int) = (q : Int) := by rw [hq]; simp
      have hcell : w2.cell? ⟨b, off + q, none⟩ = some (.int .i64 (zs.getD q 0)) := (hw1.cell (by exact hb)).trans (hc q hqn)
      have hCk := Lib.hid (eC k h)
      rw [← hq] at hCk
      clear hq
      generalize hz : zs.getD q 0 = y at *
      have hsz1 := hw1.size
      go_wp2_with fail
      refine (pick_val y (y % 7) _ rfl).mono ?_
      rintro e w' ⟨rfl, rfl⟩
      go_wp2_with (at_builtin; refine wpList_append_fresh _ rfl (.tmp 35) (.tmp 47) 28 rfl w.heap.size 23 i0 (.int .i64 0) 1 8 Try.underlying28 hi hz0 hz1 hz2 rfl (by decide) u8 k _ rfl (hob1.alloc _) ⟨w2.heap.size, 0, none⟩ 1 1 [.int .i64 (y % 7)] rfl rfl (by intro t u ht; match t, ht with | 0, ht => simp at ht; subst ht; simp [Addr.add]) (by intro u hu; simp at hu; subst hu; rfl) (by unfold maxLen; omega) (by omega) (by simp; omega) ?_; intro v2 w3 hown2 hgrow2 hfr2)
      obtain ⟨hoa2, hap2, hw2⟩ := step_app hsz1 hob1 hown1' hap1.symm hw1 hgrow2 hfr2
      have hown2' : w3.ownsRow w.heap.size 23 1 v2 (k + 1) ((C.take (k + 1)).map (Value.int .i64)) := by
        rw [take_snoc' C k (y % 7) hCk.out]; simpa using hown2
      go_roundw
      case rel => exact ⟨k + 1, by omega, by go_num, hoa2, hown2', hap2.symm, hw2⟩
      case measure => simp [intOf]; omega
    · have hkn : k = n := by omega
      subst hkn
      rw [List.take_of_length_le (by omega)] at hoa hob
      obtain ⟨ga, ca, rfl⟩ := own_some hoa hn
      obtain ⟨gb, cb, rfl⟩ := own_some hob hn
      have hsz := hw.size
      go_wp2_with fail
      refine (group_own hoa mA (by omega) g eg.out).mono ?_
      rintro e w4 ⟨rfl, hg4⟩
      replace hoa := hg4.owns hoa
      replace hob := hg4.owns hob
      replace hw := Nw.below hw hg4 hsz
      clear hg4 hsz
      go_wp2_with fail
      refine (pick_val more m _ em.out).mono ?_
      rintro e w' ⟨rfl, rfl⟩
      go_wp2
      obtain ⟨hcA, _⟩ := own_cells hoa
      go_loopw [13, 14] (fun p i wr => ∃ j : Nat, j ≤ k ∧ i = .int .i64 j ∧ p = .bool ((A.take j).all (covT m)) ∧ Nw w4 wr) (fun _ i _ => k - (intOf i).toNat)
      case atStart => exact ⟨0, Nat.zero_le _, rfl, rfl, Nw.refl _⟩
      case round =>
        obtain ⟨j, hj, rfl, rfl, hG⟩ := hrel
        by_cases hlt : j < k
        · have hjA : j < A.length := by omega
          have hcell := (hcA.grown hG).2 j hjA
          rw [Nat.zero_add] at hcell
          have hx := mA A[j] (List.getElem_mem hjA)
          have hgx := hcv A[j] (List.getElem_mem hjA)
          have HS : Hid ((A.take (j + 1)).all (covT m) = ((A.take j).all (covT m) && covT m A[j])) := Lib.hid (take_all A (covT m) j hjA)
          generalize (A.take j).all (covT m) = p at *
          generalize A[j] = x at *
          generalize hv : covT m x = v at *
          have hv' := Lib.hid hv
          clear hv
          have hgx' := Lib.hid hgx
          clear hgx
          obtain ⟨x1, x2⟩ := hx
          obtain ⟨m1, m2⟩ := hm
          obtain ⟨g1, g2⟩ := hgm
          cases p
          · go_wp2_with fail
            refine (cov_val g x true _ hgx'.out g1 g2 x1 x2).mono ?_
            rintro e w5 ⟨rfl, hg5⟩
            go_wp2
            go_roundw
            case rel => exact ⟨j + 1, by omega, by go_num, by rw [HS.out]; rfl, Nw.trans hG hg5⟩
            case measure => simp [intOf]; omega
          · go_wp2_with fail
            refine (cov_val m x v _ hv'.out m1 m2 x1 x2).mono ?_
            rintro e w5 ⟨rfl, hg5⟩
            have hcell5 : w5.cell? ⟨ga, j, none⟩ = some (.int .i64 x) := (hg5.cell (hcA.grown hG).1).trans hcell
            go_wp2_with fail
            refine (cov_val g x true _ hgx'.out g1 g2 x1 x2).mono ?_
            rintro e w6 ⟨rfl, hg6⟩
            go_wp2
            go_roundw
            case rel => exact ⟨j + 1, by omega, by go_num, by rw [HS.out]; rfl, Nw.trans hG (Nw.trans hg5 hg6)⟩
            case measure => simp [intOf]; omega
        · have hjk : j = k := by omega
          subst hjk
          have ep' := ep.out
          rw [List.take_of_length_le (by omega), ep']
          clear ep'
          have hsz := hw.size
          replace hoa := hG.owns hoa
          replace hob := hG.owns hob
          replace hw := Nw.below hw hG hsz
          clear hG hsz hcA
          have hsz := hw.size
          go_wp2_with fail
          refine (group_own hob mC (by omega) g eg2.out).mono ?_
          rintro e w5 ⟨rfl, hg5⟩
          replace hoa := hg5.owns hoa
          replace hob := hg5.owns hob
          replace hw := Nw.below hw hg5 hsz
          clear hg5 hsz
          have hsz := hw.size
          obtain ⟨hcA, _⟩ := own_cells hoa
          go_wp2_with (at_builtin; refine wpList_append_fresh _ (by rfl) (.tmp 80) (.tmp 81) 28 rfl w.heap.size 23 i0 (.int .i64 0) 1 8 Try.underlying28 hi hz0 hz1 hz2 rfl (by decide) (.slice (some ⟨gb, 0, none⟩) j cb) j _ rfl hob ⟨ga, 0, none⟩ j ca (A.map (Value.int .i64)) rfl (by simp [lA]) (hoa.cells rfl) (by intro u hu; simp at hu; obtain ⟨y, _, rfl⟩ := hu; rfl) (by unfold maxLen; omega) (by omega) (by omega) ?_; intro v5 w6 hown5 hgrow5 hfr5)
          obtain ⟨hoa6, hap6, hw6⟩ := step_app0 hsz hob hoa hap.symm hw hgrow5 hfr5
          obtain ⟨g5, c5, rfl⟩ := own_some hown5 (by omega)
          rw [← List.map_append] at hown5
          clear hgrow5 hfr5 hob hoa hap hw hcA
          have hmCA : ∀ z ∈ C ++ A, Md z := fun z hz => (List.mem_append.1 hz).elim (mC z) (mA z)
          refine (group_own hown5 hmCA (by omega) g eg3.out).mono ?_
          rintro e w7 ⟨rfl, hg7⟩
          have hsz6 := hw6.size
          replace hoa6 := hg7.owns hoa6
          replace hw6 := Nw.below hw6 hg7 hsz6
          clear hg7 hown5 hap6 hmCA hsz hsz6
          go_wp2_with fail
          refine (cov_val m g pall _ ep2.out hm.1 hm.2 hgm.1 hgm.2).mono ?_
          rintro e w8 ⟨rfl, hg8⟩
          have hsz6 := hw6.size
          replace hoa6 := hg8.owns hoa6
          replace hw6 := Nw.below hw6 hg8 hsz6
          clear hg8 hsz6
          have hsz8 := hw6.size
          go_wp2_with (at_builtin; refine wpList_append_fresh _ (by rfl) (.tmp 94) (.tmp 96) 28 rfl w.heap.size 23 i0 (.int .i64 0) 1 8 Try.underlying28 hi hz0 hz1 hz2 rfl (by decide) (.slice (some ⟨ga, 0, none⟩) j ca) j _ rfl (hoa6.alloc _) ⟨w8.heap.size, 0, none⟩ 1 1 [.int .i64 m] rfl rfl (by intro t u ht; match t, ht with | 0, ht => simp at ht; subst ht; simp [Addr.add]) (by intro u hu; simp at hu; subst hu; rfl) (by unfold maxLen; omega) (by omega) (by simp; omega) ?_; intro v8 w9 hown9 hgrow9 hfr9)
          have hw9 : Below w.heap.size w w9 := (hw6.alloc hsz8 _).grown hgrow9 (by simp; omega) (fun q hq => (hoa6.lt q hq).1)
          obtain ⟨g9, c9, rfl⟩ := own_some hown9 (by omega)
          have hown9' : w9.ownsRow w.heap.size 23 1 (.slice (some ⟨g9, 0, none⟩) (j + 1) c9) (j + 1) ((A ++ [m]).map (Value.int .i64)) := by simpa using hown9
          clear hgrow9 hfr9 hoa6 hown9 hw6 hsz8
          have hmA : ∀ z ∈ A ++ [m], Md z := fun z hz => (List.mem_append.1 hz).elim (mA z) (fun h => by rw [List.mem_singleton.1 h]; exact hm)
          refine (group_own hown9' hmA (by omega) s es.out).mono ?_
          rintro e w10 ⟨rfl, hg10⟩
          have hsz9 := hw9.size
          replace hw9 := Nw.below hw9 hg10 hsz9
          clear hg10 hown9' hmA hsz9
          go_wp2_with fail
          refine (sup_val g m s _ es2.out hgm.1 hgm.2 hm.1 hm.2).mono ?_
          rintro e w11 ⟨rfl, hg11⟩
          have hsz9 := hw9.size
          go_wp2
          go_ret
          exact ⟨rfl, Nw.below hw9 hg11 hsz9⟩

set_option maxHeartbeats 4000000 in
/-- A list of length 0, a nil one too. -/
theorem way_nil (a : Option Addr) (cap : Nat) (turn more m : Int) (w : World) (em : Hid (more % 7 = m)) (hm : Md m) (es : Hid (supT 0 m = m)) (ec : Hid (covT m 0 = true)) :
    Calls Try.prog 7 #[.slice a 0 cap, .int .i64 turn, .int .i64 more] w fun e w' => e = .returned (.bool true) ∧ Below w.heap.size w w' := by
  obtain ⟨i0, hi, hz0, hz1, hz2⟩ := info_parts modeInfo
  have hG : Nw w w := Nw.refl w
  go_enter Try.func7, Try.ntmps7
  go_wp2_with fail
  refine (lives_ok _).mono ?_
  rintro e w1 ⟨rfl, hg⟩
  replace hG := Nw.trans hG hg
  clear hg
  go_wp2
  refine wp_loop_rounds 1 ?_
  rw [rounds_succ]
  go_wp2_with fail
  refine (group_nil _ _ _).mono ?_
  rintro e w2 ⟨rfl, hg⟩
  replace hG := Nw.trans hG hg
  clear hg
  go_wp2_with fail
  refine (pick_val more m _ em.out).mono ?_
  rintro e w' ⟨rfl, rfl⟩
  go_wp2
  refine wp_loop_rounds 1 ?_
  rw [rounds_succ]
  go_wp2_with fail
  refine (group_nil _ _ _).mono ?_
  rintro e w3 ⟨rfl, hg⟩
  replace hG := Nw.trans hG hg
  clear hg
  go_wp2_with fail
  refine (group_nil _ _ _).mono ?_
  rintro e w4 ⟨rfl, hg⟩
  replace hG := Nw.trans hG hg
  clear hg
  go_wp2_with fail
  refine (cov_val m 0 true _ ec.out hm.1 hm.2 (by decide) (by decide)).mono ?_
  rintro e w5 ⟨rfl, hg⟩
  replace hG := Nw.trans hG hg
  clear hg
  have hsz := hG.sz
  go_wp2_with (at_builtin; refine wpList_append_fresh _ (by rfl) (.tmp 94) (.tmp 96) 28 rfl w.heap.size 23 i0 (.int .i64 0) 1 8 Try.underlying28 hi hz0 hz1 hz2 rfl (by decide) (.slice none 0 0) 0 _ rfl (World.ownsRow_nil _ _ _ _) ⟨w5.heap.size, 0, none⟩ 1 1 [.int .i64 m] rfl rfl (by intro t u ht; match t, ht with | 0, ht => simp at ht; subst ht; simp [Addr.add]) (by intro u hu; simp at hu; subst hu; rfl) (by decide) (by omega) (by simp; omega) ?_; intro v6 w6 hown6 hgrow6 hfr6)
  have hw6 : Below w.heap.size w w6 := (Below.alloc hG hsz _).grown hgrow6 (by simp; omega) (fun q hq => by cases hq)
  obtain ⟨g6, c6, rfl⟩ := own_some hown6 (by omega)
  have hown6' : w6.ownsRow w.heap.size 23 1 (.slice (some ⟨g6, 0, none⟩) (0 + 1) c6) (0 + 1) ([m].map (Value.int .i64)) := by simpa using hown6
  clear hgrow6 hfr6 hown6 hG hsz
  refine (group_own hown6' (fun z hz => by rw [List.mem_singleton.1 hz]; exact hm) (by omega) m es.out).mono ?_
  rintro e w7 ⟨rfl, hg⟩
  have hsz := hw6.size
  replace hw6 := Nw.below hw6 hg hsz
  clear hg hsz hown6'
  go_wp2_with fail
  refine (sup_val 0 m m _ es.out (by decide) (by decide) hm.1 hm.2).mono ?_
  rintro e w8 ⟨rfl, hg⟩
  have hsz := hw6.size
  go_wp2
  go_ret
  exact ⟨rfl, Nw.below hw6 hg hsz⟩

theorem way_long (a : Option Addr) (n cap : Nat) (turn more : Int) (w : World) (hn : 20 < n) (hn' : n ≤ maxLen) :
    Calls Try.prog 7 #[.slice a n cap, .int .i64 turn, .int .i64 more] w fun e w' => e = .returned (.bool true) ∧ Below w.heap.size w w' := by
  have hn2 : (20 : Int) < n := by omega
  go_enter Try.func7, Try.ntmps7
  go_wp2_with fail
  refine (lives_ok _).mono ?_
  rintro e w1 ⟨rfl, hg⟩
  go_wp2
  go_ret
  exact ⟨rfl, hg⟩

theorem sup_zero_all : ∀ i < 7, (supT 0 (Int.ofNat i) == Int.ofNat i) = true := by decide +kernel
theorem sup_zero (m : Int) (hm : Md m) : supT 0 m = m := by
  obtain ⟨i, rfl⟩ := Int.eq_ofNat_of_zero_le hm.1
  exact eq_of_beq (sup_zero_all i (by have := hm.2; omega))

theorem walk (a0 : Option Addr) (len0 cap0 : Nat) (z0 : List Int) (a1 : Int) (a2 : Int) (w : World) (w0 : IsRow .i64 w a0 len0 cap0 z0) (w1 : (Lit.int .i64 a1).wf = true) (w2 : (Lit.int .i64 a2).wf = true) :
    Calls Try.prog 7 #[.slice a0 len0 cap0, .int .i64 a1, .int .i64 a2] w fun e w' => e = .returned (.bool true) ∧ Below w.heap.size w w' := by
  have hm : Md (a2 % 7) := ⟨by omega, by omega⟩
  by_cases hn : len0 = 0
  · subst hn
    exact way_nil a0 cap0 a1 a2 (a2 % 7) w (Lib.hid rfl) hm (Lib.hid (sup_zero _ hm)) (Lib.hid (cov_zero _ hm))
  rcases w0 with ⟨_, h0, _, _⟩ | ⟨x, rfl, hl, hmx, hz, hcell, _⟩
  · exact absurd h0 hn
  by_cases hb : 20 < len0
  · exact way_long _ _ _ _ _ w hb (by omega)
  obtain ⟨b, off, rfl, hc⟩ := ints_at hcell (by omega)
  have hbw : b < w.heap.size := World.block_lt_of_cell? _ _ (hc 0 (by omega))
  have hT := Int.emod_nonneg a1 (show (len0 : Int) ≠ 0 by omega)
  have hT' := Int.emod_lt_of_pos a1 (show (0 : Int) < len0 by omega)
  obtain ⟨t, ht⟩ := Int.eq_ofNat_of_zero_le hT
  have htn : t < len0 := by omega
  have lA := modes_length z0 len0 (by omega)
  have mA := modes_md z0 len0
  have hmem := turned_mem (modes z0 len0) t (by omega)
  have mC : ∀ z ∈ turned (modes z0 len0) t, Md z := fun z h => mA z ((hmem z).2 h)
  have mCA : ∀ z ∈ turned (modes z0 len0) t ++ modes z0 len0, Md z := fun z h => (List.mem_append.1 h).elim (mC z) (mA z)
  have hg := grp_md _ mA
  refine way b off cap0 len0 t z0 (modes z0 len0) (turned (modes z0 len0) t) a1 a2 (a2 % 7) (grpT (modes z0 len0)) w (by omega) (by omega) hbw (fun j hj => hc j (by omega)) (fun j hj => modes_at z0 len0 j (by omega) hj) ?_ lA (by rw [turned_length, lA]) mA mC (Lib.hid ht) htn (Lib.hid rfl) hm ((modes z0 len0).all (covT (a2 % 7))) (supT (grpT (modes z0 len0)) (a2 % 7))
    (Lib.hid rfl) hg (Lib.hid (grp_ext _ _ mA hmem).symm) (Lib.hid (grp_ext _ _ mCA (fun z => by rw [List.mem_append, ← hmem z, or_self]))) (Lib.hid (grp_snoc _ _)) (Lib.hid rfl) (Lib.hid rfl) (Lib.hid (cov_grp _ hm _ mA)) (grp_covers _ mA)
  intro j hj
  have hq : (j + t) % len0 < len0 := Nat.mod_lt _ (by omega)
  rw [turned_at _ _ _ (by omega), lA]
  have := modes_at z0 len0 _ (by omega) hq
  rw [List.getD, this]; rfl

/-! ### THE ROW's STEP: WRITTEN OUT: LEAVE IT -/
set_option maxRecDepth 100000 in
theorem lifted (os : Os) (started : os.Started) (H : Type) (enc : TypeId × Value → H) :
    ReturnsInHanded {} Try.checked os 7 .any (Rows.modeGroupsSpec.pre6 enc Try.prog Try.f7 Rows.modeGroupsRow.domain false) (Rows.modeGroupsSpec.post enc Try.prog Try.f7 false true false false) := by
  refine returnsInHanded_of_change (C := Try.checked) own started (by kernel_rfl) Try.func7
    (ChangeSpec.witness6 (enc := enc) (C := Try.checked) false ⟨#[], #[.slice none 0 0, .int .i64 0, .int .i64 0], []⟩ 8 (by kernel_rfl) (by kernel_rfl) (by kernel_rfl) (by kernel_rfl)) ?_
  intro W base args ds gs before hval0 hW hcnd _
  have hval : ∀ (j : Nat) t v, Try.f7.params[j]? = some t → args[j]? = some v → Value.okWide Try.prog W .any base t v := hval0
  have hW' := hW
  obtain ⟨p, q, hA0, hV, rfl, hfz, hnd⟩ := hW
  have hA : DataW.TrodAll enc Try.prog W 0 (fun _ => true) true Try.f7.params.toList args.toList ds p := hA0
  rw [Try.params7] at hA hval
  obtain ⟨v0, vs0, d0, ds0, p0, q0, hargs, rfl, rfl, h0, r0⟩ := trodAll_cons hA
  obtain ⟨v1, vs1, d1, ds1, p1, q1, rfl, rfl, rfl, h1, r1⟩ := trodAll_cons r0
  obtain ⟨v2, vs2, d2, ds2, p2, q2, rfl, rfl, rfl, h2, r2⟩ := trodAll_cons r1
  obtain ⟨rfl, rfl, rfl⟩ := trodAll_nil r2
  obtain rfl : args = #[v0, v1, v2] := by cases args; simp_all
  obtain ⟨rfl, rfl⟩ := trodVars_none hV
  obtain ⟨a0, len0, cap0, rfl⟩ := okWide_slice Try.underlying39 (hval 0 39 v0 rfl rfl)
  have k0 := h0
  have lt0 : ∀ x ∈ p0, x.block < W.heap.size := by obtain ⟨m, hm⟩ := k0; exact DataW.trod_lt m _ _ _ hm
  obtain ⟨z0, w0⟩ : ∃ zs, IsRow .i64 W a0 len0 cap0 zs := by
    obtain ⟨fuel, hf⟩ := h0
    rcases open_ints Try.underlying39 Try.underlying3 (by kernel_rfl) hf with ⟨hcs, _⟩ | ⟨x, l, c, zs, hcs, _, hl, hm, hz, _, hcell, hwz⟩
    · simp [Value.cells] at hcs
      obtain ⟨rfl, rfl, rfl⟩ := hcs
      exact ⟨[], .inl ⟨rfl, rfl, rfl, rfl⟩⟩
    · simp [Value.cells] at hcs
      obtain ⟨rfl, rfl, rfl⟩ := hcs
      exact ⟨zs, .inr ⟨_, rfl, hl, hm, by simpa using hz, hcell, hwz⟩⟩
  obtain ⟨a1, rfl, rfl, rfl, w1⟩ := open_int Try.underlying3 (hval 1 3 v1 rfl rfl) h1
  obtain ⟨a2, rfl, rfl, rfl, w2⟩ := open_int Try.underlying3 (hval 2 3 v2 rfl rfl) h2
  clear hA0 hval0
  refine (walk a0 len0 cap0 z0 a1 a2 W w0 w1 w2).mono fun e W' ⟨he, bel⟩ => ?_
  subst he
  exact ⟨_, rfl, _, _, _, [], _, [], hW', trodAll_mk1 (shut_bool Try.underlying4 _), (trodAll_cons_mk (Below.trod laidOut (by kernel_rfl) (of_decide_eq_true (by kernel_rfl)) k0 bel lt0) (trodAll_cons_mk (shut_int Try.underlying3 w1) (trodAll_cons_mk (shut_int Try.underlying3 w2) trodAll_mk0))), rfl, bel.frame _, fun h => by cases h⟩

theorem over : Rows.modeGroupsRow.holds Try.pinned (OpenSpec.ofChange Rows.modeGroupsSpec) :=
  OpenClaim.holds_of_wide 7 Try.f7 rfl rfl rfl rfl rfl rfl rfl ⟨rfl, rfl, rfl, rfl, rfl⟩ rfl rfl rfl rfl rfl (by kernel_rfl) Try.func7 (by kernel_rfl)
    (of_decide_eq_true (by kernel_rfl)) (by unfold Func.isWrapper; first | (rw [if_pos (by decide +kernel)]; kernel_rfl) | (rw [if_neg (by decide +kernel)]; exact ⟨rfl, rfl⟩))
    (fun os started H enc _ => lifted os started H enc)

/-- ████ THE STATEMENT ████ -/
theorem proved : Rows.ModeGroupsSaid := over
end Go.Proofs.Ytcmdcbpbfjpnpaa.modeGroups
