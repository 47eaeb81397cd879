
/- Bytes. -/
import Derived.Test.YtmegaipedagcjaaScG
namespace Go.Proofs.Ytmegaipedagcjaa
open Go.RowKit
set_option linter.unusedVariables false      -- a contract need not use every name

theorem Bld.nw {B b : Nat} {bs : List Value} {w w' : World} (h : Bld B b bs w) (g : Nw w w') : Bld B b bs w' := by
  have key : ∀ {p : Value}, Lib.BuilderAtF 65 5 B b p bs w → Lib.BuilderAtF 65 5 B b p bs w' := fun hb => by
    have hlt := hb.lt
    obtain ⟨hB, v, hk, hown, hne⟩ := hb
    refine ⟨hB, v, (g.block b hlt).trans hk, ?_, hne⟩
    by_cases hv : v.ownBlock = none
    · exact hown.kept (g.grownBy none) (.inl hv)
    · exact hown.kept (g.grownBy none) (.inr hv)
  exact h.imp key key

theorem Nw.below' {w a b : World} (h : Nw w a) (k : Below w.heap.size a b) : Nw w b := Below.trans h k
def accT (cp : Cp) (th : List (List Od)) (k : Nat) : List UInt8 := capsE cp th.length ++ (thsE 0 (th.take k)).flatten
def accO (cp : Cp) (th : List (List Od)) (k : Nat) (l : List Od) (j : Nat) : List UInt8 := accT cp th k ++ ((l.take j).map (opE k)).flatten
def accP (cp : Cp) (th : List (List Od)) (pk : List (Int × Int)) (j : Nat) : List UInt8 := accT cp th th.length ++ ((pk.take j).map pickE).flatten
theorem accT_zero (cp : Cp) (th : List (List Od)) : accT cp th 0 = capsE cp th.length := by simp [accT, thsE]
theorem accT_succ (cp : Cp) (th : List (List Od)) (k : Nat) (hk : k < th.length) : accT cp th (k + 1) = accO cp th k th[k] th[k].length := by
  unfold accT accO
  rw [List.take_succ_eq_append_getElem hk, thsE_append, List.take_length, List.flatten_append]
  have : (th.take k).length = k := by simp; omega
  rw [this]
  simp [thsE, accT]
theorem accO_zero (cp : Cp) (th : List (List Od)) (k : Nat) (l : List Od) : accO cp th k l 0 = accT cp th k := by simp [accO]
theorem accO_succ (cp : Cp) (th : List (List Od)) (k : Nat) (l : List Od) (j : Nat) (hj : j < l.length) : accO cp th k l (j + 1) = accO cp th k l j ++ opE k l[j] := by
  unfold accO
  rw [List.take_succ_eq_append_getElem hj]
  simp only [List.map_append, List.flatten_append, List.map_cons, List.map_nil, List.flatten_cons, List.flatten_nil, List.append_nil, List.append_assoc]
theorem accP_zero (cp : Cp) (th : List (List Od)) (pk : List (Int × Int)) : accP cp th pk 0 = accT cp th th.length := by simp [accP]
theorem accP_succ (cp : Cp) (th : List (List Od)) (pk : List (Int × Int)) (j : Nat) (hj : j < pk.length) : accP cp th pk (j + 1) = accP cp th pk j ++ pickE pk[j] := by
  unfold accP
  rw [List.take_succ_eq_append_getElem hj]
  simp only [List.map_append, List.flatten_append, List.map_cons, List.map_nil, List.flatten_cons, List.flatten_nil, List.append_nil, List.append_assoc]
theorem accP_all (s : PS) : accP s.cp s.th s.pk s.pk.length = bytesOf s := by simp [accP, accT, bytesOf, ents]

set_option maxRecDepth 100000 in
set_option maxHeartbeats 1000000 in
theorem bytes_no (vt vp : Value) (c : Cp) (w : World) (HC : Hid (∀ z, Nw w z → Calls Try.prog 19 #[scV vt vp c] z fun e w' => e = .returned (.int .i64 2) ∧ Nw z w')) (hv : vt.oneCell' = true) (hv2 : vp.oneCell' = true) :
    Calls Try.prog 10 #[scV vt vp c] w fun e w' => e = .returned (.tuple #[stV [], .int .i64 2]) ∧ Nw w w' := by
  obtain ⟨c1, c2, c3, c4⟩ := c
  go_enter Try.func10, Try.ntmps10
  go_wp2_with (go_at_call 19; refine (HC.out _ ((Nw.refl w).alloc _)).mono ?_; rintro e w1 ⟨rfl, hg⟩)
  exact bodyPost_ret (v := .tuple #[stV [], .int .i64 2]) (by simp [results, Try.results10, go_sem, *]) rfl ⟨rfl, ((Nw.refl w).alloc _).trans hg⟩
set_option maxRecDepth 100000 in
set_option maxHeartbeats 4000000 in
theorem bytes_yes (tb to_ ct : Nat) (ap : Option Addr) (cp' : Nat) (th : List (List Od)) (pk : List (Int × Int)) (c1 c2 c3 c4 : Int) (w : World) (hT : Hid (TCells w tb to_ th)) (hP : Hid (pk = [] ∨ ∃ b o, ap = some ⟨b, o, none⟩ ∧ PCells w b o pk))
    (HC : Hid (∀ z, Nw w z → Calls Try.prog 19 #[.agg #[.slice (some ⟨tb, to_, none⟩) th.length ct, .slice ap pk.length cp', .int .i64 c1, .int .i64 c2, .int .i64 c3, .int .i64 c4]] z fun e w' => e = .returned (.int .i64 0) ∧ Nw z w'))
    (h1 : th.length ≤ 8) (h2 : ∀ x ∈ th, x.length ≤ 32 ∧ x.all okO = true) (h3 : pk.length ≤ 4096) :
    Calls Try.prog 10 #[.agg #[.slice (some ⟨tb, to_, none⟩) th.length ct, .slice ap pk.length cp', .int .i64 c1, .int .i64 c2, .int .i64 c3, .int .i64 c4]] w fun e w' =>
      e = .returned (.tuple #[stV (bytesOf ⟨th, pk, (c1, c2, c3, c4)⟩), .int .i64 0]) ∧ Nw w w' := by
  have H2 := Lib.hid h2
  clear h2
  go_enter Try.func10, Try.ntmps10
  go_wp2_with fail
  refine (HC.out _ ((Nw.refl w).alloc _)).mono ?_
  rintro e w1 ⟨rfl, hg⟩
  have hn1 : Nw w w1 := ((Nw.refl w).alloc _).trans hg
  have k0 : w1.cell? ⟨w.heap.size, 0, none⟩ = some (.slice (some ⟨tb, to_, none⟩) th.length ct) := hg.keep' (by simp [go_sem])
  have k1 : w1.cell? ⟨w.heap.size, 1, none⟩ = some (.slice ap pk.length cp') := hg.keep' (by simp [go_sem])
  have k2 : w1.cell? ⟨w.heap.size, 2, none⟩ = some (.int .i64 c1) := hg.keep' (by simp [go_sem])
  have k3 : w1.cell? ⟨w.heap.size, 3, none⟩ = some (.int .i64 c2) := hg.keep' (by simp [go_sem])
  have k4 : w1.cell? ⟨w.heap.size, 4, none⟩ = some (.int .i64 c3) := hg.keep' (by simp [go_sem])
  have k5 : w1.cell? ⟨w.heap.size, 5, none⟩ = some (.int .i64 c4) := hg.keep' (by simp [go_sem])
  have hlt1 : w.heap.size < w1.heap.size := World.block_lt_of_cell? _ _ k0
  have HE := Lib.hid (capsEntry_any (c1, c2, c3, c4) th.length (w1.alloc (.cells #[.pointer none, .slice none 0 0] 65)))
  have HB0 := Lib.hid (bld_fresh w1)
  go_wp2_with fail
  refine HE.out.mono ?_
  rintro e w2 ⟨rfl, g2⟩
  have hB2 := Lib.hid (HB0.out.nw g2)
  have hn2 : Nw w1 w2 := ((Nw.refl w1).alloc _).trans g2
  clear HE HB0
  go_wp2_with fail
  refine (write_any w1.heap.size w1.heap.size [] (capsE (c1, c2, c3, c4) th.length) w2 hB2.out (by simp [capsE]) hn2.sz).mono ?_
  rintro e w3 ⟨v3, rfl, hB3, g3⟩
  rw [List.nil_append] at hB3
  have hn3 : Nw w1 w3 := hn2.below' g3
  replace hB3 := Lib.hid hB3
  have q0 : w3.cell? ⟨w.heap.size, 0, none⟩ = some (.slice (some ⟨tb, to_, none⟩) th.length ct) := hn3.keep' k0
  clear hB2 g2 hn2
  go_wp2
  go_loopw [27] (fun i wr => ∃ k : Nat, k ≤ th.length ∧ i = .int .i64 k ∧ Bld w1.heap.size w1.heap.size (Lib.byteCells (accT (c1, c2, c3, c4) th k)) wr ∧ (accT (c1, c2, c3, c4) th k).length ≤ 8 + 256 * k ∧ Nw w1 wr) (fun i _ => th.length - (intOf i).toNat)
  case atStart => exact ⟨0, Nat.zero_le _, rfl, by rw [accT_zero]; exact hB3.out, by rw [accT_zero]; simp [capsE], hn3⟩
  case round =>
    obtain ⟨k, hk, rfl, hB, hL, hG⟩ := hrel
    have HB := Lib.hid (And.intro hB hL)
    clear hB hL hB3 q0 hn3 g3
    by_cases hlt : k < th.length
    · obtain ⟨u, c0, hu⟩ := (hT.out.nw hn1).2 k hlt
      replace c0 := hG.keep' c0
      obtain ⟨hl32, hall⟩ := H2.out _ (List.getElem_mem hlt)
      have hS := Lib.hid (accT_succ (c1, c2, c3, c4) th k hlt)
      obtain ⟨l, hl⟩ : ∃ l, th[k] = l := ⟨_, rfl⟩
      rw [hl] at hu hl32 hall hS
      have hall' := Lib.hid hall
      clear hall hl
      obtain ⟨au, cu, rfl, hu⟩ := hu
      have HU := Lib.hid hu
      clear hu
      go_wp2
      go_loopw [34] (fun i wr => ∃ j : Nat, j ≤ l.length ∧ i = .int .i64 j ∧ Bld w1.heap.size w1.heap.size (Lib.byteCells (accO (c1, c2, c3, c4) th k l j)) wr ∧ (accO (c1, c2, c3, c4) th k l j).length ≤ 8 + 256 * k + 8 * j ∧ Nw w1 wr) (fun i _ => l.length - (intOf i).toNat)
      case atStart => exact ⟨0, Nat.zero_le _, rfl, by rw [accO_zero]; exact HB.out.1, by rw [accO_zero]; have := HB.out.2; omega, hG⟩
      case round =>
        obtain ⟨j, hj, rfl, hB', hL', hG'⟩ := hrel
        have HB' := Lib.hid (And.intro hB' hL')
        clear hB' hL'
        by_cases hjl : j < l.length
        · rcases HU.out with rfl | ⟨ob, oo, rfl, hc⟩
          · simp at hjl
          have ho : okO l[j] = true := List.all_eq_true.1 hall'.out _ (List.getElem_mem hjl)
          have HX := Lib.hid (accO_succ (c1, c2, c3, c4) th k l j hjl)
          obtain ⟨d0, d1, d2, d3, d4, d5⟩ := (hc.nw hG').2 j hjl
          generalize l[j] = x at ho HX d0 d1 d2 d3 d4 d5
          obtain ⟨x0, x1, x2, x3, x4, x5⟩ := x
          obtain ⟨_, hr, _⟩ := okO_range ho
          have HE := Lib.hid (fun z => opEntry_any k (x0, x1, x2, x3, x4, x5) z (by simp only; omega) (by simp only; omega))
          simp only at d0 d1 d2 d3 d4 d5
          clear hc ho hr
          go_wp2_with fail
          refine (HE.out _).mono ?_
          rintro e w4 ⟨rfl, g4⟩
          have hg4 := ((Nw.refl _).alloc _).trans g4
          have hB4 := Lib.hid (HB'.out.1.nw hg4)
          have hn4 := hG'.trans hg4
          clear g4 hg4 d0 d1 d2 d3 d4 d5
          go_wp2_with fail
          refine (write_any w1.heap.size w1.heap.size _ (opE k (x0, x1, x2, x3, x4, x5)) w4 hB4.out (by have := HB'.out.2; have e : (opE k (x0, x1, x2, x3, x4, x5)).length = 8 := rfl; rw [e]; omega) hn4.sz).mono ?_
          rintro e w5 ⟨v5, rfl, hB5, g5⟩
          have HB5 := Lib.hid hB5
          have hn5 := hn4.below' g5
          clear hB5 g5 hB4 hn4
          go_wp2
          go_roundw
          case rel => exact ⟨j + 1, by omega, by go_num, by rw [HX.out]; exact HB5.out, by rw [HX.out, List.length_append]; have := HB'.out.2; have e : (opE k (x0, x1, x2, x3, x4, x5)).length = 8 := rfl; rw [e]; omega, hn5⟩
          case measure => simp [intOf]; omega
        · have hje : j = l.length := by omega
          subst hje
          go_wp2
          go_roundw
          case rel => exact ⟨k + 1, by omega, by go_num, by rw [hS.out]; exact HB'.out.1, by rw [hS.out]; have := HB'.out.2; omega, hG'⟩
          case measure => simp [intOf]; omega
    · have hke : k = th.length := by omega
      subst hke
      have q1 := hG.keep' k1
      have HP0 := Lib.hid (accP_zero (c1, c2, c3, c4) th pk)
      go_wp2
      go_loopw [47] (fun i wr => ∃ j : Nat, j ≤ pk.length ∧ i = .int .i64 j ∧ Bld w1.heap.size w1.heap.size (Lib.byteCells (accP (c1, c2, c3, c4) th pk j)) wr ∧ (accP (c1, c2, c3, c4) th pk j).length ≤ 8 + 256 * th.length + 8 * j ∧ Nw w1 wr) (fun i _ => pk.length - (intOf i).toNat)
      case atStart => exact ⟨0, Nat.zero_le _, rfl, by rw [HP0.out]; exact HB.out.1, by rw [HP0.out]; have := HB.out.2; omega, hG⟩
      case round =>
        obtain ⟨j, hj, rfl, hB', hL', hG'⟩ := hrel
        have HB' := Lib.hid (And.intro hB' hL')
        clear hB' hL' q1
        by_cases hjl : j < pk.length
        · rcases hP.out with rfl | ⟨ob, oo, rfl, hc⟩
          · simp at hjl
          have HX := Lib.hid (accP_succ (c1, c2, c3, c4) th pk j hjl)
          obtain ⟨d0, d1⟩ := (hc.nw (hn1.trans hG')).2 j hjl
          generalize pk[j] = x at HX d0 d1
          obtain ⟨x0, x1⟩ := x
          have HE := Lib.hid (fun z => pickEntry_any (x0, x1) z)
          simp only at d0 d1
          clear hc
          go_wp2_with fail
          refine (HE.out _).mono ?_
          rintro e w4 ⟨rfl, g4⟩
          have hg4 := ((Nw.refl _).alloc _).trans g4
          have hB4 := Lib.hid (HB'.out.1.nw hg4)
          have hn4 := hG'.trans hg4
          clear g4 hg4 d0 d1
          go_wp2_with fail
          refine (write_any w1.heap.size w1.heap.size _ (pickE (x0, x1)) w4 hB4.out (by have := HB'.out.2; have e : (pickE (x0, x1)).length = 8 := rfl; rw [e]; omega) hn4.sz).mono ?_
          rintro e w5 ⟨v5, rfl, hB5, g5⟩
          have HB5 := Lib.hid hB5
          have hn5 := hn4.below' g5
          clear hB5 g5 hB4 hn4
          go_wp2
          go_roundw
          case rel => exact ⟨j + 1, by omega, by go_num, by rw [HX.out]; exact HB5.out, by rw [HX.out, List.length_append]; have := HB'.out.2; have e : (pickE (x0, x1)).length = 8 := rfl; rw [e]; omega, hn5⟩
          case measure => simp [intOf]; omega
        · have hje : j = pk.length := by omega
          subst hje
          have HZ := Lib.hid (accP_all ⟨th, pk, (c1, c2, c3, c4)⟩)
          go_wp2_with fail
          refine (string_any w1.heap.size w1.heap.size _ _ HB'.out.1 hG'.sz).mono ?_
          rintro e w5 ⟨rfl, g5⟩
          go_wp2
          exact bodyPost_ret (v := .tuple #[stV (accP (c1, c2, c3, c4) th pk pk.length), .int .i64 0]) (by simp [results, Try.results10, go_sem, *]) rfl ⟨by rw [HZ.out], hn1.trans (hG'.below' g5)⟩
end Go.Proofs.Ytmegaipedagcjaa
