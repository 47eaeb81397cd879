
/- TicksOnce: the walk. -/
import Derived.Test.YtolpccchhjcddaaTkZ
namespace Go.Proofs.Ytolpccchhjcddaa
open Go.RowKit Go.Shelf

theorem box_state {w0 W : World} {c : Nat} {t : Int} {s : List Tm} {F : Nat → Prop} {v : Value} {want : List Int} (ha : Acc w0 W c t s F) (hw : Wt w0 W v want F) :
    St w0 (W.alloc (.cells #[.int .i64 0, .int .i64 0, .int .i64 0] 28)) c t s F v want W.heap.size (0, 0, 0) :=
  ⟨ha.step ((Nw.refl _).alloc _), hw.nw ((Nw.refl _).alloc _), ts_one W (0, 0, 0), ha.nw.sz, fun e => by have := ha.ck.own _ e; omega, fun e => by have := hw.ws.lt e; omega⟩
theorem now_q {w0 W : World} {c : Nat} {t : Int} {s : List Tm} {F : Nat → Prop} (h : Acc w0 W c t s F) (n : Nat) :
    Calls Try.prog 14 #[.pointer (some ⟨c, 0, none⟩)] (W.drewN n) fun e w'' => e = .returned (.int .i64 t) ∧ ∃ m, w'' = W.drewN m :=
  Calls.quiet_of_same ((now_any _ _ _ _ _ (h.ck.nw ((Nw.refl _).drewN n))).mono fun _ _ ⟨h1, h2⟩ => ⟨h1, h2.symm⟩)
set_option maxRecDepth 100000 in
set_option maxHeartbeats 8000000 in
theorem once_walk (a0 : Option Addr) (len0 cap0 : Nat) (z0 : List Int) (a1 : Option Addr) (len1 cap1 : Nat) (B : Nat → Bool) (a2 : Option Addr) (len2 cap2 : Nat) (z2 : List Int) (w : World) (w0 : IsRow .u16 w a0 len0 cap0 z0) (w1 : IsBits w a1 len1 cap1 B) (w2 : IsRow .u8 w a2 len2 cap2 z2)
    (h0 : len0 ≤ 40) (h1 : len1 ≤ 40) (h2 : len2 ≤ 100) :
    Calls Try.prog 5 #[.slice a0 len0 cap0, .slice a1 len1 cap1, .slice a2 len2 cap2] w fun e w' => e = .returned (.bool true) ∧ Nw w w' := by
  have k0 : ¬ (40 : Int) < (len0 : Int) := by omega
  have k1 : ¬ (40 : Int) < (len1 : Int) := by omega
  have k2 : ¬ (100 : Int) < (len2 : Int) := by omega
  have R0 := Lib.hid w0
  have R1 := Lib.hid w1
  have R2 := Lib.hid w2
  clear w0 w1 w2
  go_enter Try.func5, Try.ntmps5
  go_wp2_with fail
  refine (lives_ok _).mono ?_
  rintro e wl ⟨rfl, g0⟩
  have G0 := Lib.hid g0
  clear g0
  go_wp2_with fail
  refine (acc_new w wl G0.out).mono ?_
  rintro e wa ⟨ca, Fa, rfl, ha, na, fa⟩
  have HA := Lib.hid ha
  clear ha na fa k0 k1 k2
  go_wp2
  go_loopw [8, 9] (fun vw vi wr => ∃ (k : Nat) (F : Nat → Prop) (want : List Int) (s : List Tm), vi = .int .i64 k ∧ k ≤ len0 ∧ want.length = k ∧ Hid (Acc w wr ca 0 s F ∧ Wt w wr vw want F ∧ Once want s 0 (0, 0, 0) ∧ ∀ i, i < want.length → 0 < want.getD i 0)) (fun _ vi _ => len0 - (intOf vi).toNat)
  case atStart => exact ⟨0, Fa, [], [], rfl, Nat.zero_le _, rfl, Lib.hid ⟨HA.out, ⟨World.ownsRow_nil _ _ _ _, fun k e => by simp [Value.ownBlock] at e⟩, once_nil, by simp⟩⟩
  case round =>
    obtain ⟨k, F, want, s, rfl, hk, hwl, H⟩ := hrel
    by_cases hlt : k < len0
    · obtain ⟨b, o, rfl, hml, hbl, hcs, hwf⟩ := R0.out.at (by omega)
      have hc : wr.cell? ⟨b, o + k, none⟩ = some (.int .u16 (z0.getD k 0)) := (H.out.1.nw.cell hbl).trans (hcs k hlt)
      obtain ⟨z1, z3⟩ := u16_bd (hwf k hlt)
      clear hcs hwf
      generalize z0.getD k 0 = z at *
      have hS := Lib.hid (H.out.2.2.1.set (v := 1 + z % 1000) (by omega) hwl)
      have hsm : s.length ≤ 50000 := by have := H.out.2.2.1.small; omega
      go_wp2_with fail
      refine (acc_set H.out.1 hsm (1 + z % 1000) (k : Int) 7 0 _ hS.out.1 hS.out.2.1).mono ?_
      rintro e wc ⟨rfl, F', a', f', t'⟩
      obtain ⟨v', w1, hr, p1, p2⟩ := push_state a' (H.out.2.1.tch t' f') (1 + z % 1000) (by omega)
      have HR := Lib.hid hr
      have HP := Lib.hid (And.intro p1 p2)
      clear hr p1 p2 a' f' t' hc
      go_wp2_with (at_builtin; refine wpList_append_run rfl (.tmp 55) (.tmp 57) 51 rfl _ _ _ _ rfl rfl HR.out ?_)
      go_roundw
      case rel => exact ⟨k + 1, F', want ++ [1 + z % 1000], _, by go_num, by omega, by simp [hwl], Lib.hid ⟨HP.out.1, HP.out.2, hS.out.2.2, getD_push want _ H.out.2.2.2 (by omega)⟩⟩
      case measure => simp [intOf]; omega
    · obtain rfl : k = len0 := by omega
      obtain ⟨ao, cap, rfl, hao⟩ := H.out.2.1.ws.row
      rw [hwl] at H hao ⊢
      go_wp2
      go_loopw [11] (fun vi wr => ∃ (j : Nat) (F : Nat → Prop) (want : List Int) (s : List Tm), vi = .int .i64 j ∧ j ≤ k ∧ want.length = k ∧ Hid (Acc w wr ca 0 s F ∧ Wt w wr (.slice ao k cap) want F ∧ Once want s 0 (0, 0, 0) ∧ ∀ i, j ≤ i → i < k → 0 < want.getD i 0)) (fun vi _ => k - (intOf vi).toNat)
      case atStart => exact ⟨0, F, want, s, rfl, Nat.zero_le _, hwl, Lib.hid ⟨H.out.1, H.out.2.1, H.out.2.2.1, fun i _ h => H.out.2.2.2 i (by omega)⟩⟩
      case round =>
        clear H hwl hlt hk HA
        obtain ⟨j, F, want, s, rfl, hj, hwl, H⟩ := hrel
        by_cases hlt : j < k ∧ j < len1
        · obtain ⟨l1, l2⟩ := hlt
          obtain ⟨b, o, rfl, hml, hbl, hcs⟩ := R1.out.at (by omega)
          obtain ⟨g, rfl⟩ := hao (by omega)
          have hc : wr.cell? ⟨b, o + j, none⟩ = some (.bool (B j)) := (H.out.1.nw.cell hbl).trans (hcs j l2)
          have hsm : s.length ≤ 50000 := by have := H.out.2.2.1.small; omega
          clear hcs
          cases hB : B j
          · rw [hB] at hc
            go_wp2
            go_roundw
            case rel => exact ⟨j + 1, F, want, s, by go_num, by omega, hwl, Lib.hid ⟨H.out.1, H.out.2.1, H.out.2.2.1, fun i e h => H.out.2.2.2 i (by omega) h⟩⟩
            case measure => simp [intOf]; omega
          · rw [hB] at hc
            have hD := Lib.hid (H.out.2.2.1.drop (i := j) (by omega) (H.out.2.2.2 j (Nat.le_refl _) l1))
            go_wp2_with fail
            refine (acc_drop H.out.1 hsm (j : Int) 7 true _ hD.out.1 rfl).mono ?_
            rintro e wc ⟨rfl, F', a', f', t'⟩
            obtain ⟨c1, c2, p1, p2⟩ := drop_state H.out.2.1 a' f' t' hwl j l1
            have HP := Lib.hid (And.intro p1 p2)
            have hgl := (H.out.2.1.tch t' f').ws.lt (k := g) rfl
            have hkm : k ≤ maxLen := by unfold maxLen; omega
            clear p1 p2 a' f' t' hc
            go_wp2
            go_roundw
            case rel => exact ⟨j + 1, F', want.set j 0, _, by go_num, by omega, by simp [hwl], Lib.hid ⟨HP.out.1, HP.out.2, hD.out.2, fun i e h => by rw [getD_set _ _ _ _ (by omega), if_neg (by omega)]; exact H.out.2.2.2 i (by omega) h⟩⟩
            case measure => simp [intOf]; omega
        · have hx : (k ≤ j ∧ True) ∨ (j < k ∧ decide (j < len1) = false) := by simp; omega
          clear hlt
          rcases hx with ⟨hx, bz⟩ | ⟨hx, bz⟩
          all_goals
            go_wp2
            try simp only [bz]
            have hst := Lib.hid (box_state H.out.1 H.out.2.1)
            have HO := Lib.hid H.out.2.2.1
            obtain ⟨wz, hwz⟩ : ∃ wz, wr.alloc (.cells #[.int .i64 0, .int .i64 0, .int .i64 0] 28) = wz := ⟨_, rfl⟩
            obtain ⟨bx, hbx⟩ : ∃ bx, wr.heap.size = bx := ⟨_, rfl⟩
            rw [hwz, hbx] at hst
            rw [hwz, hbx]
            clear hwz hbx H hx hj bz
            go_loopw [13] (fun vi wr => ∃ (m : Nat) (F : Nat → Prop) (T : Int) (s : List Tm) (want : List Int) (last : Tm), vi = .int .i64 m ∧ m ≤ len2 ∧ want.length = k ∧ 0 ≤ T ∧ T ≤ 255 * m ∧ Hid (St w wr ca T s F (.slice ao k cap) want bx last ∧ Once want s T last)) (fun vi _ => len2 - (intOf vi).toNat)
            case atStart => exact ⟨0, F, 0, s, want, (0, 0, 0), rfl, Nat.zero_le _, hwl, by omega, by omega, Lib.hid ⟨hst.out, HO.out⟩⟩
            case round =>
              clear hst HO hwl
              clear s want F
              obtain ⟨m, F, T, s, want, last, rfl, hm, hwl, t0, t1, H⟩ := hrel
              by_cases hlt : m < len2
              · obtain ⟨b, o, rfl, hml, hbl, hcs, hwf⟩ := R2.out.at (by omega)
                have hc : wr.cell? ⟨b, o + m, none⟩ = some (.int .u8 (z2.getD m 0)) := (H.out.1.ac.nw.cell hbl).trans (hcs m hlt)
                have hc0 := hcs m hlt
                obtain ⟨p0, p1⟩ := u8_bd (hwf m hlt)
                clear hcs hwf
                generalize z2.getD m 0 = p at *
                have hsm : s.length ≤ 50000 := by have := H.out.2.small; omega
                go_wp2_with fail
                refine (now_any _ _ _ _ _ H.out.1.ac.ck).mono ?_
                rintro e wk ⟨rfl, rfl⟩
                go_wp2_with fail
                refine (H.out.1.pass hsm p p0 (by omega) t0 (by omega)).mono ?_
                rintro e wc ⟨vl, F', rfl, q1, q2⟩
                have hc2 : wc.cell? ⟨b, o + m, none⟩ = some (.int .u8 p) := (q1.ac.nw.cell hbl).trans hc0
                obtain ⟨T', hT'⟩ : ∃ T', T + p = T' := ⟨_, rfl⟩
                rw [hT'] at q1 q2
                have hsum : IntKind.i64.wrap (T + p) = T' := (IntWalk.i64_in _ (by omega)).trans hT'
                have d1 := due_late T' s
                have HO := Lib.hid (show Once want (due T' s ++ late T' s) T last from by rw [d1]; exact H.out.2)
                have HD := Lib.hid (due_le T' s)
                have hdl : (due T' s).length ≤ 40 := by have := due_late_len T' s; have := H.out.2.small; omega
                have HG := Lib.hid (late_gt H.out.2.srt T')
                have HS := Lib.hid q1
                have HL := Lib.hid q2
                clear q1 q2 hc hc0 d1
                generalize due T' s = d at *
                generalize late T' s = s' at *
                go_wp2
                go_quiet ((go_at_call 14; exact now_q HS.out.ac _))
                obtain ⟨al, capl, rfl, hal⟩ := HL.out.ts.row
                clear H hsm hsum hc2
                go_wp2
                go_loopw [17] (fun vj wj => ∃ (j : Nat) (want : List Int) (last : Tm), vj = .int .i64 j ∧ j ≤ d.length ∧ want.length = k ∧ Hid (St w wj ca T' s' F' (.slice ao k cap) want bx last ∧ Lt w wj (.slice al d.length capl) d F' (.slice ao k cap) bx ∧ Once want (d.drop j ++ s') T last)) (fun vj _ => d.length - (intOf vj).toNat)
                case atStart => exact ⟨0, want, last, rfl, Nat.zero_le _, hwl, Lib.hid ⟨HS.out.nw ((Nw.refl _).drewN _), HL.out.nw ((Nw.refl _).drewN _), HO.out⟩⟩
                case round =>
                  clear HS HL HO hwl
                  clear want last
                  obtain ⟨j, want, last, rfl, hj, hwl, H⟩ := hrel
                  by_cases hlj : j < d.length
                  · obtain ⟨i, X, i1, i2, i3, i4, i5, i6, i7⟩ := H.out.2.2.next hlj HD.out
                    obtain ⟨gl, rfl⟩ := hal (by omega)
                    obtain ⟨g, rfl⟩ := hao (by omega)
                    obtain ⟨c0, c1, c2⟩ := TRow.cells (show TRow wr gl capl d from H.out.2.1.ts) j hlj
                    have hml2 : d.length ≤ maxLen := by have := TRow.cap_le (show TRow wr gl capl d from H.out.2.1.ts); omega
                    rw [i2] at c0 c1 c2
                    simp only at c0 c1 c2
                    have HN := Lib.hid i7
                    clear i7 i2
                    go_wp2
                    obtain ⟨wx, hwx⟩ : ∃ wx, wr.alloc (.cells #[.int .i64 X, .int .i64 (i : Int), .int .i64 7] 28) = wx := ⟨_, rfl⟩
                    obtain ⟨xb, hxb⟩ : ∃ xb, wr.heap.size = xb := ⟨_, rfl⟩
                    rw [hwx, hxb]
                    have NX : Nw wr wx := hwx ▸ (Nw.refl _).alloc _
                    have x0 : wx.cell? ⟨xb, 0, none⟩ = some (.int .i64 X) := by rw [← hwx, ← hxb]; simp [go_sem]
                    have x1 : wx.cell? ⟨xb, 1, none⟩ = some (.int .i64 (i : Int)) := by rw [← hwx, ← hxb]; simp [go_sem]
                    have x2 : wx.cell? ⟨xb, 2, none⟩ = some (.int .i64 7) := by rw [← hwx, ← hxb]; simp [go_sem]
                    have xl : xb < wx.heap.size := by rw [← hwx, ← hxb]; simp
                    obtain ⟨_, _, y1, y2, _⟩ := H.out.1.cells hwl
                    have y3 : ¬ xb = g := by omega
                    have y4 : ¬ xb = bx := by omega
                    have y5 : ¬ g = xb := by omega
                    have y6 : ¬ bx = xb := by omega
                    have SX := Lib.hid (H.out.1.nw NX)
                    have LX := Lib.hid (H.out.2.1.nw NX)
                    obtain ⟨e0, e1, e2, e3, e4, e5, e6, e7, e8⟩ := SX.out.cells hwl
                    have e10 := e0 i (by omega)
                    rw [i3] at e10
                    have e9 : ¬ bx = g := fun e => e4 e.symm
                    have ik : i < k := by omega
                    have km : k ≤ maxLen := by unfold maxLen; omega
                    have b1 : decide ((i : Int) < 0) = false := by simp
                    have b2 : decide (k ≤ i) = false := by simp; omega
                    have b8 : ((k : Int) ≤ (i : Int)) = False := by simp; omega
                    have b3 : decide (X ≤ T) = false := by simp; omega
                    have b4 : decide (T' < X) = false := by simp; omega
                    clear hwx hxb NX H y1 y2 c0 c1 c2 i1 i3 e0
                    obtain ⟨la, lw, lm⟩ := last
                    simp only at e5 e6 e7 i6
                    rcases i6 with i6 | ⟨rfl, i6⟩
                    · have b5 : decide (X < la) = false := by simp; omega
                      have b6 : decide (X = la) = false := by simp; omega
                      have b7 : (X == la) = false := by simp; omega
                      go_quiet ((go_at_call 14; exact now_q SX.out.ac _))
                      go_wp2
                      clear b1 b2 b3 b4 b5 b6 b8
                      go_region
                      go_wp2
                      go_roundw
                      case rel =>
                        obtain ⟨f1, f2⟩ := (SX.out.nw ((Nw.refl _).drewN (nq + 1))).fire hwl i (X, (i : Int), 7) _ _ (LX.out.nw ((Nw.refl _).drewN (nq + 1)))
                        exact ⟨j + 1, want.set i 0, (X, (i : Int), 7), by go_num, by omega, by simp [hwl], Lib.hid ⟨f1, f2, HN.out⟩⟩
                      case measure => simp [intOf]; omega
                    · have b5 : decide (la < la) = false := by simp
                      have b6 : decide ((i : Int) ≤ lw) = false := by simp; omega
                      go_quiet ((go_at_call 14; exact now_q SX.out.ac _))
                      go_wp2
                      clear b1 b2 b3 b4 b5 b6 b8
                      go_region
                      go_wp2
                      go_roundw
                      case rel =>
                        obtain ⟨f1, f2⟩ := (SX.out.nw ((Nw.refl _).drewN (nq + 1))).fire hwl i (la, (i : Int), 7) _ _ (LX.out.nw ((Nw.refl _).drewN (nq + 1)))
                        exact ⟨j + 1, want.set i 0, (la, (i : Int), 7), by go_num, by omega, by simp [hwl], Lib.hid ⟨f1, f2, HN.out⟩⟩
                      case measure => simp [intOf]; omega
                  · obtain rfl : j = d.length := by omega
                    have HN := Lib.hid (Once.late (T := T) (want := want) (s := s') (last := last) (by have := H.out.2.2; rwa [List.drop_length, List.nil_append] at this) HG.out)
                    go_wp2
                    go_roundw
                    case rel => exact ⟨m + 1, F', T', s', want, last, by go_num, by omega, hwl, by omega, by omega, Lib.hid ⟨H.out.1, HN.out⟩⟩
                    case measure => simp [intOf]; omega
              · obtain rfl : m = len2 := by omega
                have HO := Lib.hid H.out.2
                go_wp2
                go_loopw [19, 20] (fun vl vi wx => ∃ (q : Nat), vl = .int .i64 (pos (want.take q)) ∧ vi = .int .i64 q ∧ q ≤ k ∧ Hid (St w wx ca T s F (.slice ao k cap) want bx last)) (fun _ vi _ => k - (intOf vi).toNat)
                case atStart => exact ⟨0, by simp [pos], rfl, Nat.zero_le _, Lib.hid H.out.1⟩
                case round =>
                  clear H
                  obtain ⟨q, rfl, rfl, hq, HT⟩ := hrel
                  by_cases hlq : q < k
                  · obtain ⟨g, rfl⟩ := hao (by omega)
                    obtain ⟨e0, _⟩ := HT.out.cells hwl
                    have e10 := e0 q hlq
                    have hp := pos_take want q (by omega)
                    have hpl : pos (want.take q) ≤ 40 := by have := pos_le (want.take q); have := List.length_take (i := q) (l := want); omega
                    have hlf := fun h => HO.out.left (i := q) (by omega) h
                    have km : k ≤ maxLen := by unfold maxLen; omega
                    have HP := Lib.hid hp
                    clear e0 hp
                    obtain ⟨v, hv⟩ : ∃ v, want.getD q 0 = v := ⟨_, rfl⟩
                    rw [hv] at e10 hlf HP
                    clear hv
                    by_cases hv : 0 < v
                    · have hlv := hlf hv
                      clear hlf
                      rw [if_pos hv] at HP
                      have b1 : decide (v ≤ T) = false := by simp; omega
                      go_wp2
                      go_quiet ((go_at_call 14; exact now_q HT.out.ac _))
                      go_wp2
                      go_roundw
                      case rel => exact ⟨q + 1, by rw [HP.out]; go_num, by go_num, by omega, Lib.hid (HT.out.nw ((Nw.refl _).drewN _))⟩
                      case measure => simp [intOf]; omega
                    · clear hlf
                      rw [if_neg hv] at HP
                      go_wp2
                      go_roundw
                      case rel => exact ⟨q + 1, by rw [HP.out]; rfl, by go_num, by omega, HT⟩
                      case measure => simp [intOf]; omega
                  · obtain rfl : q = k := by omega
                    have htk : want.take q = want := List.take_of_length_le (by omega)
                    rw [htk]
                    have hc := HO.out.len
                    go_wp2_with fail
                    refine (clen_any _ _ _ _ _ HT.out.ac.ck).mono ?_
                    rintro e wk ⟨rfl, rfl⟩
                    rw [hc]
                    go_wp2
                    go_ret
                    exact ⟨rfl, HT.out.ac.nw⟩
set_option maxRecDepth 100000 in
set_option maxHeartbeats 4000000 in
theorem once_long (a0 : Option Addr) (len0 cap0 : Nat) (a1 : Option Addr) (len1 cap1 : Nat) (a2 : Option Addr) (len2 cap2 : Nat) (w : World) (h : 40 < len0 ∨ (len0 ≤ 40 ∧ 40 < len1) ∨ (len0 ≤ 40 ∧ len1 ≤ 40 ∧ 100 < len2)) :
    Calls Try.prog 5 #[.slice a0 len0 cap0, .slice a1 len1 cap1, .slice a2 len2 cap2] w fun e w' => e = .returned (.bool true) ∧ Nw w w' := by
  rcases h with h | ⟨h0, h⟩ | ⟨h0, h1, h⟩
  · have k0 : (40 : Int) < (len0 : Int) := by omega
    go_enter Try.func5, Try.ntmps5
    go_wp2_with fail
    refine (lives_ok _).mono ?_
    rintro e w0 ⟨rfl, g0⟩
    have G0 := Lib.hid g0
    clear g0
    go_wp2
    go_ret
    exact ⟨rfl, G0.out⟩
  · have k0 : ¬ (40 : Int) < (len0 : Int) := by omega
    have k1 : (40 : Int) < (len1 : Int) := by omega
    go_enter Try.func5, Try.ntmps5
    go_wp2_with fail
    refine (lives_ok _).mono ?_
    rintro e w0 ⟨rfl, g0⟩
    have G0 := Lib.hid g0
    clear g0
    go_wp2
    go_ret
    exact ⟨rfl, G0.out⟩
  · have k0 : ¬ (40 : Int) < (len0 : Int) := by omega
    have k1 : ¬ (40 : Int) < (len1 : Int) := by omega
    have k2 : (100 : Int) < (len2 : Int) := by omega
    go_enter Try.func5, Try.ntmps5
    go_wp2_with fail
    refine (lives_ok _).mono ?_
    rintro e w0 ⟨rfl, g0⟩
    have G0 := Lib.hid g0
    clear g0
    go_wp2
    go_ret
    exact ⟨rfl, G0.out⟩
theorem once_any (a0 : Option Addr) (len0 cap0 : Nat) (z0 : List Int) (a1 : Option Addr) (len1 cap1 : Nat) (B : Nat → Bool) (a2 : Option Addr) (len2 cap2 : Nat) (z2 : List Int) (w : World) (w0 : IsRow .u16 w a0 len0 cap0 z0) (w1 : IsBits w a1 len1 cap1 B) (w2 : IsRow .u8 w a2 len2 cap2 z2) :
    Calls Try.prog 5 #[.slice a0 len0 cap0, .slice a1 len1 cap1, .slice a2 len2 cap2] w fun e w' => e = .returned (.bool true) ∧ Nw w w' := by
  by_cases h : len0 ≤ 40 ∧ len1 ≤ 40 ∧ len2 ≤ 100
  · exact once_walk a0 len0 cap0 z0 a1 len1 cap1 B a2 len2 cap2 z2 w w0 w1 w2 h.1 h.2.1 h.2.2
  · exact once_long a0 len0 cap0 a1 len1 cap1 a2 len2 cap2 w (by omega)
end Go.Proofs.Ytolpccchhjcddaa
