
/- Set and Drop. -/
import Derived.Test.YtolpccchhjcddaaTkK
namespace Go.Proofs.Ytolpccchhjcddaa
open Go.RowKit Go.Shelf

theorem any_perm {l s : List Tm} (h : l.Perm s) (a b : Int) : l.any (keyB a b) = s.any (keyB a b) := by
  rw [Bool.eq_iff_iff, List.any_eq_true, List.any_eq_true]
  exact ⟨fun ⟨x, hx, hk⟩ => ⟨x, h.mem_iff.1 hx, hk⟩, fun ⟨x, hx, hk⟩ => ⟨x, h.mem_iff.2 hx, hk⟩⟩
def setE (t : Int) (s : List Tm) (a who mark : Int) : Int := if a ≤ t then 2 else if s.any (keyB who mark) = true then 4 else 0
def setS (t : Int) (s : List Tm) (a who mark : Int) : List Tm := if a ≤ t then s else if s.any (keyB who mark) = true then s else ins (a, who, mark) s
def drp (s : List Tm) (who mark : Int) : List Tm := s.filter fun x => !keyB who mark x
theorem drp_none (s : List Tm) (who mark : Int) (h : s.any (keyB who mark) = false) : drp s who mark = s := by
  unfold drp
  rw [List.filter_eq_self]
  intro x hx
  rw [List.any_eq_false] at h
  have := h x hx
  simpa using this
theorem drp_perm : ∀ (s : List Tm) (x : Tm) (who mark : Int), (s.map (·.2)).Nodup → x ∈ s → keyB who mark x = true → s.Perm (x :: drp s who mark)
  | [], x, _, _, _, h, _ => by cases h
  | y :: s, x, who, mark, hn, hx, hk => by
    have hn2 := List.nodup_cons.1 (show (y.2 :: s.map (·.2)).Nodup from hn)
    have hk2 := (keyB_iff who mark x).1 hk
    rcases List.mem_cons.1 hx with rfl | hx
    · have e : drp (x :: s) who mark = s := by
        unfold drp
        rw [List.filter_cons, hk]
        simp only [Bool.not_true, Bool.false_eq_true, if_false]
        refine List.filter_eq_self.2 fun z hz => ?_
        cases hz2 : keyB who mark z with
        | false => rfl
        | true =>
          have := (keyB_iff who mark z).1 hz2
          exact absurd (List.mem_map.2 ⟨z, hz, this.trans hk2.symm⟩) hn2.1
      rw [e]
    · have e : drp (y :: s) who mark = y :: drp s who mark := by
        unfold drp
        rw [List.filter_cons]
        have : keyB who mark y = false := by
          cases hy : keyB who mark y with
          | false => rfl
          | true =>
            have := (keyB_iff who mark y).1 hy
            exact absurd (List.mem_map.2 ⟨x, hx, hk2.trans this.symm⟩) hn2.1
        rw [this]; rfl
      rw [e]
      exact ((drp_perm s x who mark hn2.2 hx hk).cons y).trans (List.Perm.swap x y _)
theorem drp_srt {s : List Tm} (h : Srt s) (who mark : Int) : Srt (drp s who mark) := List.Pairwise.filter _ h
theorem drp_uq {s : List Tm} (h : (s.map (·.2)).Nodup) (who mark : Int) : ((drp s who mark).map (·.2)).Nodup :=
  List.Nodup.sublist (List.Sublist.map _ List.filter_sublist) h
theorem drp_len (s : List Tm) (who mark : Int) : (drp s who mark).length ≤ s.length := List.length_filter_le _ _

theorem ck_push {w w1 w2 : World} {c : Nat} {t : Int} {v : Value} {l s s' : List Tm} (h : Ck w c t v l s) (hg : Nw w w1) (hp : PushH w1 c 2 v s' w2) (hu : (s'.map (·.2)).Nodup) : ClkTo w c (Of c v) t s' w2 := by
  obtain ⟨g', cap', l', p1, p2, p3, p4, p5⟩ := hp
  have h1 := h.nw hg
  refine ⟨Of c (.slice (some ⟨g', 0, none⟩) l'.length cap'), ⟨_, l', ⟨(p5 0 (by decide)).1.trans h1.self, (p5 1 (by decide)).1.trans h1.now, (p5 1 (by decide)).2.trans h1.nowf, p1.v, p2, hu, h.tb⟩, rfl⟩, ?_, (Tch.nw hg).trans p4⟩
  rintro k (rfl | e)
  · exact .inl (.inl rfl)
  · simp [Value.ownBlock] at e
    subst e
    rcases p3 with e | e
    · exact .inl (.inr e.symm)
    · exact .inr (Nat.le_trans hg.sz e)
theorem ck_pop {w w1 w2 : World} {c g cap : Nat} {t t' : Int} {l s s' : List Tm} (h : Ck w c t (.slice (some ⟨g, 0, none⟩) l.length cap) l s) (hg : Nw w w1) (hp : PopH w1 c 2 g cap s' w2) (hu : (s'.map (·.2)).Nodup) : ClkTo w c (Of c (.slice (some ⟨g, 0, none⟩) l.length cap)) t s' w2 := by
  obtain ⟨l', p1, p2, p4, p5⟩ := hp
  have h1 := h.nw hg
  refine ⟨Of c (.slice (some ⟨g, 0, none⟩) l'.length cap), ⟨_, l', ⟨(p5 0 (by decide)).1.trans h1.self, (p5 1 (by decide)).1.trans h1.now, (p5 1 (by decide)).2.trans h1.nowf, p1.v, p2, hu, h.tb⟩, rfl⟩, ?_, (Tch.nw hg).trans (p4.mono ?_)⟩
  · rintro k (rfl | e)
    · exact .inl (.inl rfl)
    · exact .inl (.inr e)
  · rintro k _ (rfl | rfl)
    · exact .inl rfl
    · exact .inr rfl

theorem set_nil (a b d : Int) (w : World) : Calls Try.prog 9 #[.pointer none, .int .i64 a, .int .i64 b, .int .i64 d] w fun e w' => e = .returned (.int .i64 1) ∧ w = w' := by
  go_enter Try.func9, Try.ntmps9
  go_wp2_with (go_at_call 26; refine (made_nil _).mono ?_; rintro e w' ⟨rfl, rfl⟩)
  go_ret
  exact ⟨rfl, rfl⟩
set_option maxHeartbeats 1000000 in
theorem set_any (c : Nat) (t : Int) (s : List Tm) (F : Nat → Prop) (a who mark : Int) (w : World) (h : Clk w c t s F) (hsm : s.length ≤ 50000) :
    Calls Try.prog 9 #[.pointer (some ⟨c, 0, none⟩), .int .i64 a, .int .i64 who, .int .i64 mark] w fun e w' => e = .returned (.int .i64 (setE t s a who mark)) ∧ ClkTo w c F t (setS t s a who mark) w' := by
  have HK := Lib.hid h
  obtain ⟨v, l, h, rfl⟩ := h
  have HC := Lib.hid h
  have HM := Lib.hid (made_yes c w h.self)
  have hn := h.now
  have hd := h.tm.hd
  have hsz := Lib.hid (show l.length ≤ 100000 by rw [h.hs.len]; omega)
  have HP := Lib.hid (place_any c 2 v l who mark w h.tm)
  have hix := idx_cases who mark l
  rw [any_perm h.hs.2.1] at hix
  have hv := h.tm.form
  clear h
  by_cases h1 : a ≤ t
  · have e1 : setE t s a who mark = 2 := if_pos h1
    have e2 : setS t s a who mark = s := if_pos h1
    rw [e1, e2]
    clear e1 e2 hix
    go_enter Try.func9, Try.ntmps9
    go_wp2_with (go_at_call 26; refine HM.out.mono ?_; rintro e w' ⟨rfl, rfl⟩)
    go_ret
    exact ⟨rfl, HK.out.to (Nw.refl _)⟩
  · rcases hix with ⟨hi, hany⟩ | ⟨k, hi, hkl, hky, hany⟩
    · have e1 : setE t s a who mark = 0 := by unfold setE; rw [if_neg h1, if_neg (by rw [hany]; simp)]
      have e2 : setS t s a who mark = ins (a, who, mark) s := by unfold setS; rw [if_neg h1, if_neg (by rw [hany]; simp)]
      rw [hi] at HP
      rw [e1, e2]
      have HU := Lib.hid (show ((ins (a, who, mark) s).map (·.2)).Nodup from by
        refine perm_nodup (ins_perm (a, who, mark) s).symm ?_
        show ((who, mark) :: s.map (·.2)).Nodup
        refine List.nodup_cons.2 ⟨fun hm => ?_, HC.out.uq⟩
        obtain ⟨y, hy, e⟩ := List.mem_map.1 hm
        rw [List.any_eq_false] at hany
        exact hany y hy ((keyB_iff who mark y).2 e))
      clear e1 e2 hany hi
      have hag : agT (a, who, mark) = .agg #[.int .i64 a, .int .i64 who, .int .i64 mark] := rfl
      have HH := Lib.hid (fun w1 (k : Nw w w1) => hpush_any c 2 v l s (a, who, mark) w1 (HC.out.tm.nw k) HC.out.hs hsz.out)
      rw [hag] at HH
      clear hag
      rcases hv with ⟨rfl, rfl⟩ | ⟨g, cap, rfl, _⟩
      all_goals
        go_enter Try.func9, Try.ntmps9
        go_wp2_with (go_at_call 26; refine HM.out.mono ?_; rintro e w' ⟨rfl, rfl⟩)
        refine HP.out.mono ?_
        rintro e w1 ⟨rfl, hg⟩
        have hlt := HC.out.lt
        have HG := Lib.hid hg
        clear hg
        go_wp2_with fail
        refine (HH.out _ HG.out).mono ?_
        rintro e w2 ⟨rfl, hp⟩
        have H2 := Lib.hid (ck_push HC.out HG.out hp HU.out)
        clear hp
        go_wp2
        go_ret
        exact ⟨rfl, H2.out⟩
    · have e1 : setE t s a who mark = 4 := by unfold setE; rw [if_neg h1, if_pos hany]
      have e2 : setS t s a who mark = s := by unfold setS; rw [if_neg h1, if_pos hany]
      rw [hi] at HP
      rw [e1, e2]
      clear e1 e2 hany hi
      have hq : ((k : Int) != -1) = true := by simp
      rcases hv with ⟨rfl, rfl⟩ | ⟨g, cap, rfl, _⟩
      · simp at hkl
      · clear hkl hky
        go_enter Try.func9, Try.ntmps9
        go_wp2_with (go_at_call 26; refine HM.out.mono ?_; rintro e w' ⟨rfl, rfl⟩)
        refine HP.out.mono ?_
        rintro e w1 ⟨rfl, hg⟩
        have HG := Lib.hid hg
        clear hg
        go_wp2
        go_ret
        exact ⟨rfl, HK.out.to HG.out⟩

theorem drop_nil (b d : Int) (w : World) : Calls Try.prog 12 #[.pointer none, .int .i64 b, .int .i64 d] w fun e w' => e = .returned (.bool false) ∧ w = w' := by
  go_enter Try.func12, Try.ntmps12
  go_wp2_with (go_at_call 26; refine (made_nil _).mono ?_; rintro e w' ⟨rfl, rfl⟩)
  go_ret
  exact ⟨rfl, rfl⟩
set_option maxHeartbeats 1000000 in
theorem drop_any (c : Nat) (t : Int) (s : List Tm) (F : Nat → Prop) (who mark : Int) (w : World) (h : Clk w c t s F) (hsm : s.length ≤ 50000) :
    Calls Try.prog 12 #[.pointer (some ⟨c, 0, none⟩), .int .i64 who, .int .i64 mark] w fun e w' => e = .returned (.bool (s.any (keyB who mark))) ∧ ClkTo w c F t (drp s who mark) w' := by
  have HK := Lib.hid h
  obtain ⟨v, l, h, rfl⟩ := h
  have HC := Lib.hid h
  have HM := Lib.hid (made_yes c w h.self)
  have hd := h.tm.hd
  have hsz := Lib.hid (show l.length ≤ 100000 by rw [h.hs.len]; omega)
  have HP := Lib.hid (place_any c 2 v l who mark w h.tm)
  have hix := idx_cases who mark l
  rw [any_perm h.hs.2.1] at hix
  have hv := h.tm.form
  clear h
  rcases hix with ⟨hi, hany⟩ | ⟨k, hi, hkl, hky, hany⟩
  · have e2 := drp_none s who mark hany
    rw [hi] at HP
    rw [hany, e2]
    clear e2 hany hi
    rcases hv with ⟨rfl, rfl⟩ | ⟨g, cap, rfl, _⟩
    all_goals
      go_enter Try.func12, Try.ntmps12
      go_wp2_with (go_at_call 26; refine HM.out.mono ?_; rintro e w' ⟨rfl, rfl⟩)
      refine HP.out.mono ?_
      rintro e w1 ⟨rfl, hg⟩
      have HG := Lib.hid hg
      clear hg
      go_wp2
      go_ret
      exact ⟨rfl, HK.out.to HG.out⟩
  · rcases hv with ⟨rfl, rfl⟩ | ⟨g, cap, rfl, hp⟩
    · simp at hkl
    · have hmem : at' l k ∈ s := HC.out.hs.2.1.mem_iff.1 (by rw [at_lt l hkl]; exact List.getElem_mem hkl)
      have hpm := drp_perm s (at' l k) who mark HC.out.uq hmem hky
      have HH := Lib.hid (fun w1 (q : Nw w w1) => hremove_any c 2 g cap l s (drp s who mark) k hkl w1 (hp.nw q) HC.out.hs hsz.out (drp_srt HC.out.hs.2.2 who mark) hpm)
      rw [hi] at HP
      rw [hany]
      have hq : ((k : Int) == -1) = false := by simp
      clear hany hi hkl hky hmem hpm hp
      go_enter Try.func12, Try.ntmps12
      go_wp2_with (go_at_call 26; refine HM.out.mono ?_; rintro e w' ⟨rfl, rfl⟩)
      refine HP.out.mono ?_
      rintro e w1 ⟨rfl, hg⟩
      have hlt := HC.out.lt
      have HG := Lib.hid hg
      clear hg
      go_wp2_with fail
      refine (HH.out _ HG.out).mono ?_
      rintro e w2 ⟨rfl, hp⟩
      have H2 := Lib.hid (ck_pop (t' := t) HC.out HG.out hp (drp_uq HC.out.uq who mark))
      clear hp
      go_wp2
      go_ret
      exact ⟨rfl, H2.out⟩
end Go.Proofs.Ytolpccchhjcddaa
