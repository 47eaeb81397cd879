/- Contracts of package name, sixth part: numberAfter, parse, Read. -/
import Derived.Test.YtdcjhjmbfpkigaaDoorNameM
import Derived.Test.YtdcjhjmbfpkigaaDoorWrap
namespace Go.Proofs.YtdcjhjmbfpkigaaDoor
open Go.ChangeShapes Go.WideShapes Go.ChangeAt Go.RowKit

/-- What the library's variables hold, as far as its contracts ask. -/
def Libs (w : World) : Prop := (∃ m, w.cell? ⟨0, 0, none⟩ = some (.int .i64 m)) ∧ (∃ te pe, w.cell? ⟨2, 0, none⟩ = some (.iface te pe)) ∧ (∃ te pe, w.cell? ⟨3, 0, none⟩ = some (.iface te pe))
theorem Libs.grown {w w' : World} (h : Libs w) (g : Nw w w') : Libs w' := by
  obtain ⟨⟨m, h1⟩, ⟨t2, p2, h2⟩, ⟨t3, p3, h3⟩⟩ := h
  exact ⟨⟨m, g.keep h1⟩, ⟨t2, p2, g.keep h2⟩, ⟨t3, p3, g.keep h3⟩⟩
theorem Nw.bytes {w : World} {e : TypeId} {s : ByteArray} : Nw w (Lib.bytesWorld w e s) := Go.Joins.below_bytesWorld _ w e s (Nat.le_refl _)

/-- strconv.Atoi where a number is spelled. -/
theorem atoi_ok (s : ByteArray) (v : Int) (w : World) (hs : s.size ≤ 60) (h : Lib.atoiAll s.data.toList = .ok v) :
    Calls Tryd.prog 53 #[.string s] w fun e w' => e = .returned (.tuple #[.int .i64 v, .nilIface]) ∧ Nw w w' :=
  (Tryd.strconv_Atoi_ok s (by omega) v h w).mono fun _ _ ⟨he, hw⟩ => ⟨he, by rcases hw with rfl | ⟨t, rfl⟩; exact Nw.refl _; exact Nw.bytes⟩
/-- An error is handed back beside a number. -/
def Err (i : Int) (w : World) (e : Ending) (w' : World) : Prop := ∃ te pe, e = .returned (.tuple #[.int .i64 i, .iface te pe]) ∧ Nw w w'
/-- strconv.Atoi elsewhere. -/
theorem atoi_no (s : ByteArray) (w : World) (hs : s.size ≤ 60) (hl : Libs w) (h : ∀ v, Lib.atoiAll s.data.toList ≠ .ok v) :
    ∃ i, Calls Tryd.prog 53 #[.string s] w (Err i w) ∧ endI s.data.toList = i := by
  unfold endI
  obtain ⟨_, ⟨t2, p2, h2⟩, ⟨t3, p3, h3⟩⟩ := hl
  rcases hx : Lib.atoiAll s.data.toList with v | _ | _
  · exact absurd hx (h v)
  · exact ⟨_, (Any.strconv_Atoi_syntax Tryd.laysC172 s (by omega) hx _ w h2 (.inr ⟨_, _, rfl⟩)).mono fun _ _ ⟨_, he, _, _, hb⟩ => ⟨_, _, he, hb⟩, rfl⟩
  · exact ⟨_, (Any.strconv_Atoi_range Tryd.laysC172 s (by omega) hx _ w h3 (.inr ⟨_, _, rfl⟩)).mono fun _ _ ⟨_, he, _, _, hb⟩ => ⟨_, _, he, hb⟩, rfl⟩

theorem cutPrefix_any (s p : ByteArray) (w : World) :
    Calls Tryd.prog 52 #[.string s, .string p] w fun e w' => e = .returned (.tuple #[.string ⟨(Lib.trimPrefix s.data.toList p.data.toList).toArray⟩, .bool (Lib.hasPrefix s.data.toList p.data.toList)]) ∧ w = w' :=
  (Tryd.strings_CutPrefix s p w).mono fun _ _ ⟨he, hw⟩ => ⟨he, hw.symm⟩
theorem cut_any (s sep : ByteArray) (w : World) (hs : s.size ≤ 60) (hl : Libs w) :
    Calls Tryd.prog 46 #[.string s, .string sep] w fun e w' => e = .returned (.tuple #[.string ⟨(Lib.cut s.data.toList sep.data.toList).1.toArray⟩, .string ⟨(Lib.cut s.data.toList sep.data.toList).2.1.toArray⟩, .bool (Lib.cut s.data.toList sep.data.toList).2.2]) ∧ Nw w w' := by
  obtain ⟨⟨m, hm⟩, _, _⟩ := hl
  exact (Any.strings_Cut { Tryd.laysM145 with } s sep m w (by omega) hm).mono fun _ _ ⟨he, n, hw⟩ => ⟨he, hw ▸ (Nw.refl w).drewN n⟩
theorem trim_size (s p : ByteArray) (h : s.size ≤ 60) : (⟨(Lib.trimPrefix s.data.toList p.data.toList).toArray⟩ : ByteArray).size ≤ 60 := by
  show (Lib.trimPrefix s.data.toList p.data.toList).toArray.size ≤ 60
  have : s.data.toList.length ≤ 60 := by simpa using h
  unfold Lib.trimPrefix
  split
  · simp; simp at this; omega
  · simpa using this

set_option maxHeartbeats 400000 in
theorem number_any (p s : ByteArray) (w : World) (hl : Libs w) (hs : s.size ≤ 60) :
    Calls Tryd.prog 47 #[.string p, .string s] w fun e w' => e = .returned (.tuple #[.int .i64 (naI p.data.toList s.data.toList), .bool (naB p.data.toList s.data.toList)]) ∧ Nw w w' := by
  have hz := trim_size s p hs
  have ed : (⟨(Lib.trimPrefix s.data.toList p.data.toList).toArray⟩ : ByteArray).data.toList = Lib.trimPrefix s.data.toList p.data.toList := by simp
  by_cases hx : ∃ v, Lib.atoiAll (Lib.trimPrefix s.data.toList p.data.toList) = .ok v
  · obtain ⟨v, hx⟩ := hx
    have ei : naI p.data.toList s.data.toList = v := by unfold naI endI; rw [hx]
    have eb : naB p.data.toList s.data.toList = Lib.hasPrefix s.data.toList p.data.toList := by unfold naB; rw [hx]; simp
    rw [ei, eb]
    have H := Lib.hid (fun w => atoi_ok ⟨(Lib.trimPrefix s.data.toList p.data.toList).toArray⟩ v w hz (by rw [ed]; exact hx))
    clear hz ed hx ei eb
    cases hp : Lib.hasPrefix s.data.toList p.data.toList with
    | true =>
      have hp2 : Lib.hasPrefix s.data.toList p.data.toList = true := hp
      go_enter Tryd.func47, Tryd.ntmps47
      go_wp2_with (first | (go_at_call 52; refine (cutPrefix_any _ _ _).mono ?_; rintro e w' ⟨rfl, rfl⟩) | (go_at_call 53; refine (H.out _).mono ?_; rintro e w' ⟨rfl, hg⟩))
      go_quiet (fail)
      go_wp2
      go_ret2
      exact ⟨rfl, hg.drewN _⟩
    | false =>
      have hp2 : Lib.hasPrefix s.data.toList p.data.toList = false := hp
      go_enter Tryd.func47, Tryd.ntmps47
      go_wp2_with (first | (go_at_call 52; refine (cutPrefix_any _ _ _).mono ?_; rintro e w' ⟨rfl, rfl⟩) | (go_at_call 53; refine (H.out _).mono ?_; rintro e w' ⟨rfl, hg⟩))
      go_quiet (fail)
      go_wp2
      go_ret2
      exact ⟨rfl, hg.drewN _⟩
  · have hx' : ∀ v, Lib.atoiAll (⟨(Lib.trimPrefix s.data.toList p.data.toList).toArray⟩ : ByteArray).data.toList ≠ .ok v := fun v h => hx ⟨v, by rw [← ed]; exact h⟩
    obtain ⟨i, hc, hi⟩ := atoi_no _ w hz hl hx'
    have ei : naI p.data.toList s.data.toList = i := by unfold naI; rw [← hi, ed]
    have eb : naB p.data.toList s.data.toList = false := by
      unfold naB
      rcases hy : Lib.atoiAll (Lib.trimPrefix s.data.toList p.data.toList) with v | _ | _
      · exact absurd ⟨v, hy⟩ hx
      · simp
      · simp
    rw [ei, eb]
    have H := Lib.hid hc
    clear hz ed hx hx' hc hi ei eb
    cases hp : Lib.hasPrefix s.data.toList p.data.toList with
    | true =>
      have hp2 : Lib.hasPrefix s.data.toList p.data.toList = true := hp
      go_enter Tryd.func47, Tryd.ntmps47
      go_wp2_with (first | (go_at_call 52; refine (cutPrefix_any _ _ _).mono ?_; rintro e w' ⟨rfl, rfl⟩) | (go_at_call 53; refine H.out.mono ?_; rintro e w' ⟨te, pe, rfl, hg⟩))
      go_quiet (fail)
      go_wp2
      go_ret2
      exact ⟨rfl, hg.drewN _⟩
    | false =>
      have hp2 : Lib.hasPrefix s.data.toList p.data.toList = false := hp
      go_enter Tryd.func47, Tryd.ntmps47
      go_wp2_with (first | (go_at_call 52; refine (cutPrefix_any _ _ _).mono ?_; rintro e w' ⟨rfl, rfl⟩) | (go_at_call 53; refine H.out.mono ?_; rintro e w' ⟨te, pe, rfl, hg⟩))
      go_quiet (fail)
      go_wp2
      go_ret2
      exact ⟨rfl, hg.drewN _⟩

theorem cut_size (l sep : List UInt8) (h : l.length ≤ 60) : (Lib.cut l sep).1.length ≤ 60 ∧ (Lib.cut l sep).2.1.length ≤ 60 := by
  unfold Lib.cut
  split
  · exact ⟨by simp; omega, by simp; omega⟩
  · exact ⟨h, by simp⟩
theorem na_val (p s : ByteArray) (i : Int) (b : Bool) (w : World) (hl : Libs w) (hs : s.size ≤ 60) (hi : naI p.data.toList s.data.toList = i) (hb : naB p.data.toList s.data.toList = b) :
    Calls Tryd.prog 47 #[.string p, .string s] w fun e w' => e = .returned (.tuple #[.int .i64 i, .bool b]) ∧ Nw w w' := by
  subst hi; subst hb; exact number_any p s w hl hs

set_option maxHeartbeats 1000000 in
theorem parse_db (s : ByteArray) (w : World) (hs : s.data.toList = [100, 98]) :
    Calls Tryd.prog 37 #[.string s] w fun e w' => e = .returned (.tuple #[.agg #[.int .i64 (-1), .int .i64 (-1)], .bool true]) ∧ Nw w w' := by
  have hq : (s.toList == [100, 98]) = true := by rw [ByteArray.toList_eq, hs]; rfl
  clear hs
  go_enter Tryd.func37, Tryd.ntmps37
  go_wp2_with fail
  refine (database_any _).mono ?_
  rintro e w' ⟨rfl, hg⟩
  have hG := hg
  clear hg
  go_wp2_with fail
  refine (text_db _).mono ?_
  rintro e w' ⟨rfl, hg⟩
  replace hG := hG.trans hg
  clear hg
  go_wp2_with fail
  refine (database_any _).mono ?_
  rintro e w' ⟨rfl, hg⟩
  replace hG := hG.trans hg
  clear hg
  obtain ⟨hc, hf⟩ := hG.rules
  go_wp2
  exact bodyPost_ret (v := .tuple #[.agg #[.int .i64 (-1), .int .i64 (-1)], .bool true]) (by simp [results, Tryd.results37, go_sem, *]) rfl ⟨rfl, ((((Nw.refl _).alloc _).trans hG).set (by simp <;> omega) _).set (by simp <;> omega) _⟩

set_option maxHeartbeats 1000000 in
theorem parse_w1a (s tb rc : ByteArray) (i : Int) (w : World) (hq : (s.toList == [100, 98]) = false)
    (HC : Hid (∀ w', Nw w w' → Calls Tryd.prog 46 #[.string s, .string ⟨#[46]⟩] w' fun e w'' => e = .returned (.tuple #[.string tb, .string rc, .bool true]) ∧ Nw w' w''))
    (H1 : Hid (∀ w', Nw w w' → Calls Tryd.prog 47 #[.string ⟨#[116]⟩, .string tb] w' fun e w'' => e = .returned (.tuple #[.int .i64 i, .bool false]) ∧ Nw w' w''))
    : Calls Tryd.prog 37 #[.string s] w fun e w' => e = .returned (.tuple #[.agg #[.int .i64 i, .int .i64 (-1)], .bool false]) ∧ Nw w w' := by
  have h0 : Nw w (w.alloc (.cells #[.int .i64 0, .int .i64 0] 24)) := (Nw.refl _).alloc _
  have hG := Nw.refl (w.alloc (.cells #[.int .i64 0, .int .i64 0] 24))
  go_enter Tryd.func37, Tryd.ntmps37
  go_wp2_with fail
  refine (database_any _).mono ?_
  rintro e w' ⟨rfl, hg⟩
  replace hG := hG.trans hg
  clear hg
  go_wp2_with fail
  refine (text_db _).mono ?_
  rintro e w' ⟨rfl, hg⟩
  replace hG := hG.trans hg
  clear hg
  go_wp2_with fail
  refine (HC.out _ (h0.trans hG)).mono ?_
  rintro e w' ⟨rfl, hg⟩
  replace hG := hG.trans hg
  clear hg
  go_wp2_with fail
  refine (H1.out _ (h0.trans hG)).mono ?_
  rintro e w' ⟨rfl, hg⟩
  replace hG := hG.trans hg
  clear hg
  obtain ⟨hc, hf⟩ := hG.rules
  go_wp2
  exact bodyPost_ret (v := .tuple #[.agg #[.int .i64 i, .int .i64 (-1)], .bool false]) (by simp [results, Tryd.results37, go_sem, *]) rfl ⟨rfl, ((((Nw.refl _).alloc _).trans hG).set (by simp <;> omega) _).set (by simp <;> omega) _⟩
set_option maxHeartbeats 1000000 in
theorem parse_w1b (s tb rc : ByteArray) (i : Int) (w : World) (hq : (s.toList == [100, 98]) = false)
    (HC : Hid (∀ w', Nw w w' → Calls Tryd.prog 46 #[.string s, .string ⟨#[46]⟩] w' fun e w'' => e = .returned (.tuple #[.string tb, .string rc, .bool false]) ∧ Nw w' w''))
    (H1 : Hid (∀ w', Nw w w' → Calls Tryd.prog 47 #[.string ⟨#[116]⟩, .string tb] w' fun e w'' => e = .returned (.tuple #[.int .i64 i, .bool false]) ∧ Nw w' w''))
    : Calls Tryd.prog 37 #[.string s] w fun e w' => e = .returned (.tuple #[.agg #[.int .i64 i, .int .i64 (-1)], .bool false]) ∧ Nw w w' := by
  have h0 : Nw w (w.alloc (.cells #[.int .i64 0, .int .i64 0] 24)) := (Nw.refl _).alloc _
  have hG := Nw.refl (w.alloc (.cells #[.int .i64 0, .int .i64 0] 24))
  go_enter Tryd.func37, Tryd.ntmps37
  go_wp2_with fail
  refine (database_any _).mono ?_
  rintro e w' ⟨rfl, hg⟩
  replace hG := hG.trans hg
  clear hg
  go_wp2_with fail
  refine (text_db _).mono ?_
  rintro e w' ⟨rfl, hg⟩
  replace hG := hG.trans hg
  clear hg
  go_wp2_with fail
  refine (HC.out _ (h0.trans hG)).mono ?_
  rintro e w' ⟨rfl, hg⟩
  replace hG := hG.trans hg
  clear hg
  go_wp2_with fail
  refine (H1.out _ (h0.trans hG)).mono ?_
  rintro e w' ⟨rfl, hg⟩
  replace hG := hG.trans hg
  clear hg
  obtain ⟨hc, hf⟩ := hG.rules
  go_wp2
  exact bodyPost_ret (v := .tuple #[.agg #[.int .i64 i, .int .i64 (-1)], .bool false]) (by simp [results, Tryd.results37, go_sem, *]) rfl ⟨rfl, ((((Nw.refl _).alloc _).trans hG).set (by simp <;> omega) _).set (by simp <;> omega) _⟩
set_option maxHeartbeats 1000000 in
theorem parse_w2 (s tb rc : ByteArray) (i : Int) (w : World) (hq : (s.toList == [100, 98]) = false)
    (HC : Hid (∀ w', Nw w w' → Calls Tryd.prog 46 #[.string s, .string ⟨#[46]⟩] w' fun e w'' => e = .returned (.tuple #[.string tb, .string rc, .bool false]) ∧ Nw w' w''))
    (H1 : Hid (∀ w', Nw w w' → Calls Tryd.prog 47 #[.string ⟨#[116]⟩, .string tb] w' fun e w'' => e = .returned (.tuple #[.int .i64 i, .bool true]) ∧ Nw w' w''))
    : Calls Tryd.prog 37 #[.string s] w fun e w' => e = .returned (.tuple #[.agg #[.int .i64 i, .int .i64 (-1)], .bool true]) ∧ Nw w w' := by
  have h0 : Nw w (w.alloc (.cells #[.int .i64 0, .int .i64 0] 24)) := (Nw.refl _).alloc _
  have hG := Nw.refl (w.alloc (.cells #[.int .i64 0, .int .i64 0] 24))
  go_enter Tryd.func37, Tryd.ntmps37
  go_wp2_with fail
  refine (database_any _).mono ?_
  rintro e w' ⟨rfl, hg⟩
  replace hG := hG.trans hg
  clear hg
  go_wp2_with fail
  refine (text_db _).mono ?_
  rintro e w' ⟨rfl, hg⟩
  replace hG := hG.trans hg
  clear hg
  go_wp2_with fail
  refine (HC.out _ (h0.trans hG)).mono ?_
  rintro e w' ⟨rfl, hg⟩
  replace hG := hG.trans hg
  clear hg
  go_wp2_with fail
  refine (H1.out _ (h0.trans hG)).mono ?_
  rintro e w' ⟨rfl, hg⟩
  replace hG := hG.trans hg
  clear hg
  obtain ⟨hc, hf⟩ := hG.rules
  go_wp2
  exact bodyPost_ret (v := .tuple #[.agg #[.int .i64 i, .int .i64 (-1)], .bool true]) (by simp [results, Tryd.results37, go_sem, *]) rfl ⟨rfl, ((((Nw.refl _).alloc _).trans hG).set (by simp <;> omega) _).set (by simp <;> omega) _⟩
set_option maxHeartbeats 1000000 in
theorem parse_w3 (s tb rc : ByteArray) (i j : Int) (b2 : Bool) (w : World) (hq : (s.toList == [100, 98]) = false)
    (HC : Hid (∀ w', Nw w w' → Calls Tryd.prog 46 #[.string s, .string ⟨#[46]⟩] w' fun e w'' => e = .returned (.tuple #[.string tb, .string rc, .bool true]) ∧ Nw w' w''))
    (H1 : Hid (∀ w', Nw w w' → Calls Tryd.prog 47 #[.string ⟨#[116]⟩, .string tb] w' fun e w'' => e = .returned (.tuple #[.int .i64 i, .bool true]) ∧ Nw w' w''))
    (H2 : Hid (∀ w', Nw w w' → Calls Tryd.prog 47 #[.string ⟨#[114]⟩, .string rc] w' fun e w'' => e = .returned (.tuple #[.int .i64 j, .bool b2]) ∧ Nw w' w''))
    : Calls Tryd.prog 37 #[.string s] w fun e w' => e = .returned (.tuple #[.agg #[.int .i64 i, .int .i64 j], .bool b2]) ∧ Nw w w' := by
  have h0 : Nw w (w.alloc (.cells #[.int .i64 0, .int .i64 0] 24)) := (Nw.refl _).alloc _
  have hG := Nw.refl (w.alloc (.cells #[.int .i64 0, .int .i64 0] 24))
  go_enter Tryd.func37, Tryd.ntmps37
  go_wp2_with fail
  refine (database_any _).mono ?_
  rintro e w' ⟨rfl, hg⟩
  replace hG := hG.trans hg
  clear hg
  go_wp2_with fail
  refine (text_db _).mono ?_
  rintro e w' ⟨rfl, hg⟩
  replace hG := hG.trans hg
  clear hg
  go_wp2_with fail
  refine (HC.out _ (h0.trans hG)).mono ?_
  rintro e w' ⟨rfl, hg⟩
  replace hG := hG.trans hg
  clear hg
  go_wp2_with fail
  refine (H1.out _ (h0.trans hG)).mono ?_
  rintro e w' ⟨rfl, hg⟩
  replace hG := hG.trans hg
  clear hg
  go_wp2_with fail
  refine (H2.out _ (h0.trans hG)).mono ?_
  rintro e w' ⟨rfl, hg⟩
  replace hG := hG.trans hg
  clear hg
  obtain ⟨hc, hf⟩ := hG.rules
  go_wp2
  exact bodyPost_ret (v := .tuple #[.agg #[.int .i64 i, .int .i64 j], .bool b2]) (by simp [results, Tryd.results37, go_sem, *]) rfl ⟨rfl, ((((Nw.refl _).alloc _).trans hG).set (by simp <;> omega) _).set (by simp <;> omega) _⟩

theorem mk_list (l : List UInt8) : (⟨l.toArray⟩ : ByteArray).data.toList = l := by simp
theorem parse_any (s : ByteArray) (w : World) (hl : Libs w) (hs : s.size ≤ 60) (hd : s.data.toList ≠ [100, 98]) :
    Calls Tryd.prog 37 #[.string s] w fun e w' => e = .returned (.tuple #[.agg #[.int .i64 (prT s.data.toList), .int .i64 (prR s.data.toList)], .bool (prB s.data.toList)]) ∧ Nw w w' := by
  have hq : (s.toList == [100, 98]) = false := by rw [ByteArray.toList_eq]; simpa using hd
  have hls : s.data.toList.length ≤ 60 := by simpa using hs
  obtain ⟨z1, z2⟩ := cut_size s.data.toList [46] hls
  have z1' : (⟨(Lib.cut s.data.toList [46]).1.toArray⟩ : ByteArray).size ≤ 60 := by show (Lib.cut s.data.toList [46]).1.toArray.size ≤ 60; simpa using z1
  have z2' : (⟨(Lib.cut s.data.toList [46]).2.1.toArray⟩ : ByteArray).size ≤ 60 := by show (Lib.cut s.data.toList [46]).2.1.toArray.size ≤ 60; simpa using z2
  have HC := fun w' (g : Nw w w') => cut_any s ⟨#[46]⟩ w' hs (hl.grown g)
  have H1 := fun w' (g : Nw w w') => na_val ⟨#[116]⟩ ⟨(Lib.cut s.data.toList [46]).1.toArray⟩ (naI [116] (Lib.cut s.data.toList [46]).1) _ w' (hl.grown g) z1' rfl rfl
  have H2 := fun w' (g : Nw w w') => na_val ⟨#[114]⟩ ⟨(Lib.cut s.data.toList [46]).2.1.toArray⟩ (naI [114] (Lib.cut s.data.toList [46]).2.1) _ w' (hl.grown g) z2' rfl rfl
  unfold prT prR prB
  cases h1 : naB [116] (Lib.cut s.data.toList [46]).1 with
  | false =>
    have H1' := fun w' (g : Nw w w') => na_val ⟨#[116]⟩ ⟨(Lib.cut s.data.toList [46]).1.toArray⟩ (naI [116] (Lib.cut s.data.toList [46]).1) false w' (hl.grown g) z1' rfl h1
    cases h2 : (Lib.cut s.data.toList [46]).2.2 with
    | true => exact parse_w1a s _ _ _ w hq (Lib.hid fun w' g => (by have := HC w' g; rw [show (Lib.cut s.data.toList (⟨#[46]⟩ : ByteArray).data.toList).2.2 = true from h2] at this; exact this)) (Lib.hid H1')
    | false => exact parse_w1b s _ _ _ w hq (Lib.hid fun w' g => (by have := HC w' g; rw [show (Lib.cut s.data.toList (⟨#[46]⟩ : ByteArray).data.toList).2.2 = false from h2] at this; exact this)) (Lib.hid H1')
  | true =>
    have H1' := fun w' (g : Nw w w') => na_val ⟨#[116]⟩ ⟨(Lib.cut s.data.toList [46]).1.toArray⟩ (naI [116] (Lib.cut s.data.toList [46]).1) true w' (hl.grown g) z1' rfl h1
    cases h2 : (Lib.cut s.data.toList [46]).2.2 with
    | true => exact parse_w3 s _ _ _ _ _ w hq (Lib.hid fun w' g => (by have := HC w' g; rw [show (Lib.cut s.data.toList (⟨#[46]⟩ : ByteArray).data.toList).2.2 = true from h2] at this; exact this)) (Lib.hid H1') (Lib.hid H2)
    | false => exact parse_w2 s _ _ _ w hq (Lib.hid fun w' g => (by have := HC w' g; rw [show (Lib.cut s.data.toList (⟨#[46]⟩ : ByteArray).data.toList).2.2 = false from h2] at this; exact this)) (Lib.hid H1')
end Go.Proofs.YtdcjhjmbfpkigaaDoor
