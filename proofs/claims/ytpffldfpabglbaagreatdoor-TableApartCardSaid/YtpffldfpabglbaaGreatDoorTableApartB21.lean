/- Texts merged: TbI, TcJ, TbS, TbT, QvT, QvU, TbX, TbW, TbY, TcK, TcL -/
import Derived.Test.YtpffldfpabglbaaGreatDoorTableApartB20
import Derived.WalkKit
import Derived.ProofKit
import Derived.OpenShut
import Derived.ShutString
import Derived.ChangeOld
import Derived.Below
import Derived.Deep.Slices
import Derived.Deep.Fields
import Derived.ChangeSame
import Derived.Lib.SmallJoins

/- Plain facts of buckets: two that are alike but for their numbers stay so. Of no program. -/
section
namespace Go.Proofs.YtpffldfpabglbaaGreatDoor
set_option linter.unusedVariables false

def rq4 (r : Rq) : Int × Int × Int × Int := (r.txn, r.md, r.wt, r.sn)
def hk (h : Hq) : (Int × Int) × Int × List (Int × Int × Int × Int) := (nmH h, h.W, h.q.map rq4)
/-- Alike but for the numbers of requests. -/
def SimB (a b : List Hq) : Prop := a.map hk = b.map hk
theorem put_sim {x y : Hq} (e : hk x = hk y) : ∀ {a b : List Hq}, SimB a b → SimB (putH a x) (putH b y) := by
  have hn : nmH x = nmH y := congrArg Prod.fst e
  intro a
  induction a with
  | nil =>
    intro b h
    cases b with
    | nil => show [hk x] = [hk y]; rw [e]
    | cons z t => simp [SimB] at h
  | cons u t ih =>
    intro b h
    cases b with
    | nil => simp [SimB] at h
    | cons z s =>
      obtain ⟨h1, h2⟩ := List.cons.inj h
      have hm : nmH u = nmH z := congrArg Prod.fst h1
      show (if nlt (nmH u) (nmH x) then u :: putH t x else if nmH u = nmH x then x :: t else x :: u :: t).map hk = (if nlt (nmH z) (nmH y) then z :: putH s y else if nmH z = nmH y then y :: s else y :: z :: s).map hk
      rw [hm, hn]
      have h2' : t.map hk = s.map hk := h2
      have i2 : (putH t x).map hk = (putH s y).map hk := ih h2
      split
      · rw [List.map_cons, List.map_cons, h1, i2]
      · split
        · rw [List.map_cons, List.map_cons, e, h2']
        · rw [List.map_cons, List.map_cons, List.map_cons, List.map_cons, e, h1, h2']
theorem get_sim {nm : Int × Int} : ∀ {a b : List Hq}, SimB a b → (getH a nm).map hk = (getH b nm).map hk := by
  intro a
  induction a with
  | nil =>
    intro b h
    cases b with
    | nil => rfl
    | cons z t => simp [SimB] at h
  | cons u t ih =>
    intro b h
    cases b with
    | nil => simp [SimB] at h
    | cons z s =>
      obtain ⟨h1, h2⟩ := List.cons.inj h
      have hm : nmH u = nmH z := congrArg Prod.fst h1
      have i2 : (getH t nm).map hk = (getH s nm).map hk := ih h2
      unfold getH at i2 ⊢
      rw [List.find?_cons, List.find?_cons, hm]
      by_cases q : nmH z = nm
      · simp [q, h1]
      · simp only [q, decide_false]
        exact i2
theorem hd_sim {a b : List Hq} (h : SimB a b) (t r : Int) : hk (hdB a t r) = hk (hdB b t r) := by
  have g := get_sim (nm := (t, r)) h
  unfold hdB
  cases e1 : getH a (t, r) with
  | none =>
    cases e2 : getH b (t, r) with
    | none => rfl
    | some y => rw [e1, e2] at g; cases g
  | some x =>
    cases e2 : getH b (t, r) with
    | none => rw [e1, e2] at g; cases g
    | some y => rw [e1, e2] at g; exact Option.some.inj g
theorem any_sim {p q : List Rq} (h : p.map rq4 = q.map rq4) (f : Int × Int × Int × Int → Bool) : (p.any fun r => f (rq4 r)) = q.any fun r => f (rq4 r) := by
  have e1 : (p.any fun r => f (rq4 r)) = (p.map rq4).any f := by rw [List.any_map]; rfl
  have e2 : (q.any fun r => f (rq4 r)) = (q.map rq4).any f := by rw [List.any_map]; rfl
  rw [e1, e2, h]
theorem all_sim {p q : List Rq} (h : p.map rq4 = q.map rq4) (f : Int × Int × Int × Int → Bool) : (p.all fun r => f (rq4 r)) = q.all fun r => f (rq4 r) := by
  have e1 : (p.all fun r => f (rq4 r)) = (p.map rq4).all f := by rw [List.all_map]; rfl
  have e2 : (q.all fun r => f (rq4 r)) = (q.map rq4).all f := by rw [List.all_map]; rfl
  rw [e1, e2, h]
theorem tw_sim {a b : List Hq} (h : SimB a b) (t r txn : Int) : twB a t r txn = twB b t r txn := by
  have g := congrArg (fun x => x.2.2) (hd_sim h t r)
  exact any_sim g (fun x => x.1 == txn)
theorem askQ_sim {W : Int} {p q : List Rq} (h : p.map rq4 = q.map rq4) (i j txn m : Int) : (askQ W p i txn m).1 = (askQ W q j txn m).1 ∧ (askQ W p i txn m).2.1.map rq4 = (askQ W q j txn m).2.1.map rq4 ∧ (askQ W p i txn m).2.2 = (askQ W q j txn m).2.2 := by
  have hf : free p m = free q m := all_sim h (fun x => x.2.2.2 == 0 && cpI x.2.1 m)
  unfold askQ
  rw [hf]
  split
  · simp [h, rq4]
  · simp [h, rq4]
/-- Ask, where neither is full. -/
theorem ask_sim {n : Nat} {a b : List Hq} {L R : List Bool} (h : SimB a b) (t r txn m : Int) (h1 : ¬ fullB n a L t r) (h2 : ¬ fullB n b R t r) : SimB (askBS n a L t r txn m).1 (askBS n b R t r txn m).1 := by
  have g := hd_sim h t r
  have g1 : (hdB a t r).W = (hdB b t r).W := congrArg (fun x => x.2.1) g
  have g2 : (hdB a t r).q.map rq4 = (hdB b t r).q.map rq4 := congrArg (fun x => x.2.2) g
  have ee : askBE n a L t r txn m = askBE n b R t r txn m := by
    unfold askBE
    rw [tw_sim h, if_neg h1, if_neg h2]
  unfold askBS
  rw [ee]
  split
  · refine put_sim ?_ h
    obtain ⟨k1, k2, k3⟩ := askQ_sim (W := (hdB b t r).W) g2 (fre L) (fre R) txn m
    unfold askH hk
    simp only [nmH]
    rw [g1, k1, k2]
  · exact h
end Go.Proofs.YtpffldfpabglbaaGreatDoor
end

/- TableApart: plain facts. -/
section
namespace Go.Proofs.YtpffldfpabglbaaGreatDoor.tableApart
set_option linter.unusedVariables false      -- a contract need not use every name

/-- What is told of the heads of one name. -/
abbrev HK : Type := (Int × Int) × Int × List (Int × Int × Int × Int)
def nmF (nm : Int × Int) (s : List Hq) : List HK := (s.filter fun h => decide (nmH h = nm)).map hk
def b8 (x : Int) : UInt8 := UInt8.ofNat (x % 256).toNat
def by4 (x : Int × Int × Int × Int) : List UInt8 := [b8 x.1, b8 x.2.1, b8 x.2.2.1, b8 x.2.2.2]
def byQ (q : List Rq) : List UInt8 := q.flatMap fun r => by4 (rq4 r)
def byH (nm : Int × Int) (s : List Hq) : List UInt8 := (s.filter fun h => decide (nmH h = nm)).flatMap fun h => byQ h.q
theorem byH_of (nm : Int × Int) (s : List Hq) : byH nm s = (nmF nm s).flatMap fun x => x.2.2.flatMap by4 := by
  unfold byH nmF byQ
  rw [List.flatMap_map]
  congr 1
  funext h
  show _ = (h.q.map rq4).flatMap by4
  rw [List.flatMap_map]
theorem b8_nat (x : Int) : ((b8 x).toNat : Int) = x % 256 := by
  unfold b8
  have h1 := Int.emod_nonneg x (show (256 : Int) ≠ 0 by decide)
  have h2 := Int.emod_lt_of_pos x (show (0 : Int) < 256 by decide)
  have : (UInt8.ofNat (x % 256).toNat).toNat = (x % 256).toNat := by simp [UInt8.toNat_ofNat']; omega
  rw [this]
  omega
theorem byH_nx {nm : Int × Int} {s : List Hq} {i : Nat} (hi : i < s.length) : byH nm (s.take (i + 1)) = byH nm (s.take i) ++ (if nmH s[i] = nm then byQ s[i].q else []) := by
  unfold byH
  rw [List.take_succ_eq_append_getElem hi, List.filter_append, List.flatMap_append]
  congr 1
  by_cases h : nmH s[i] = nm
  · simp [h]
  · simp [h]
theorem byQ_nx {q : List Rq} {j : Nat} (hj : j < q.length) : byQ (q.take (j + 1)) = byQ (q.take j) ++ [b8 q[j].txn, b8 q[j].md, b8 q[j].wt, b8 q[j].sn] := by
  unfold byQ
  rw [List.take_succ_eq_append_getElem hj, List.flatMap_append]
  rfl
theorem byQ_len (q : List Rq) : (byQ q).length = 4 * q.length := by
  unfold byQ
  induction q with
  | nil => rfl
  | cons a t ih => rw [List.flatMap_cons, List.length_append, ih, List.length_cons]; show 4 + _ = _; omega
theorem byH_len (nm : Int × Int) (s : List Hq) : (byH nm s).length ≤ 4 * (s.map fun h => h.q.length).sum := by
  unfold byH
  induction s with
  | nil => simp
  | cons a t ih =>
    rw [List.filter_cons]
    split
    · rw [List.flatMap_cons, List.length_append, byQ_len, List.map_cons, List.sum_cons]; omega
    · rw [List.map_cons, List.sum_cons]; omega
theorem filt_flat {p : Hq → Bool} {f : Hq → Int} : ∀ (hss : List (List Hq)) (off : Int) (j : Nat), (∀ i (hi : i < hss.length), ∀ x ∈ hss[i], f x = off + i) → (∀ x, p x = true → f x = off + j) → hss.flatten.filter p = (hss.getD j []).filter p
  | [], off, j, h, hp => by simp
  | a :: t, off, j, h, hp => by
    rw [List.flatten_cons, List.filter_append]
    have ht : ∀ i (hi : i < t.length), ∀ x ∈ t[i], f x = (off + 1) + i := fun i hi x hx => by
      have := h (i + 1) (by rw [List.length_cons]; omega) x (by rw [List.getElem_cons_succ]; exact hx)
      rw [this]
      omega
    have ha : ∀ x ∈ a, f x = off := fun x hx => by
      have := h 0 (by rw [List.length_cons]; omega) x (by rw [List.getElem_cons_zero]; exact hx)
      rw [this]
      omega
    cases j with
    | zero =>
      have h2 : t.flatten.filter p = [] := by
        rw [List.filter_eq_nil_iff]
        intro x hx e
        obtain ⟨l, hl, hxl⟩ := List.mem_flatten.1 hx
        obtain ⟨i, hi, rfl⟩ := List.getElem_of_mem hl
        have h1 := ht i hi x hxl
        have h2 := hp x e
        omega
      rw [h2, List.append_nil, List.getD_cons_zero]
    | succ j =>
      have h2 : a.filter p = [] := by
        rw [List.filter_eq_nil_iff]
        intro x hx e
        have h1 := ha x hx
        have h2 := hp x e
        omega
      rw [h2, List.nil_append, List.getD_cons_succ]
      exact filt_flat t (off + 1) j ht (fun x e => by have := hp x e; omega)
section
variable {S n N k k' : Nat} {hss hst : List (List Hq)} {L R : List Bool}
theorem nm_perm (ok : TbOk S n N k hss L) {t r : Int} {s : Nat} (hs : ofS t r S = (s : Int)) : (nmF (t, r) (snapT hss)).Perm (nmF (t, r) (hsAt hss s)) := by
  unfold nmF hsAt
  refine List.Perm.map _ ?_
  have e := filt_flat (p := fun h => decide (nmH h = (t, r))) (f := fun h => ofS h.t h.r S) hss 0 s (fun i hi x hx => by rw [ok.st i hi x hx]; omega) (fun x e => by
    have e1 : nmH x = (t, r) := by simpa using e
    have e2 : x.t = t := congrArg Prod.fst e1
    have e3 : x.r = r := congrArg Prod.snd e1
    rw [e2, e3, hs]
    omega)
  rw [← e]
  exact ok.snap_srt.2.filter _
theorem nm_srt (ok : TbOk S n N k hss L) (nm : Int × Int) : (nmF nm (snapT hss)).Pairwise fun a b => nlt a.1 b.1 := by
  unfold nmF
  rw [List.pairwise_map]
  exact ok.snap_srt.1.filter _
theorem sim_filt {a b : List Hq} (nm : Int × Int) (h : SimB a b) : nmF nm a = nmF nm b := by
  have e : ∀ s : List Hq, nmF nm s = (s.map hk).filter fun x => decide (x.1 = nm) := fun s => by
    unfold nmF
    rw [List.filter_map]
    rfl
  rw [e, e]
  unfold SimB at h
  rw [h]
/-- Told alike. -/
theorem told_sim (ok : TbOk S n N k hss L) (ok' : TbOk S n N k' hst R) {t r : Int} {s : Nat} (hs : ofS t r S = (s : Int)) (h : SimB (hsAt hss s) (hsAt hst s)) : byH (t, r) (snapT hss) = byH (t, r) (snapT hst) := by
  rw [byH_of, byH_of]
  have p : (nmF (t, r) (snapT hss)).Perm (nmF (t, r) (snapT hst)) := (nm_perm ok hs).trans (sim_filt (t, r) h ▸ (nm_perm ok' hs).symm)
  rw [List.Perm.eq_of_pairwise (le := fun x y : HK => nlt x.1 y.1) (fun x y _ _ h1 h2 => absurd (nlt_tr h1 h2) (nlt_irr _)) (nm_srt ok _) (nm_srt ok' _) p]
theorem flat_len {hss : List (List Hq)} {i : Nat} (hi : i < hss.length) : hss[i].length ≤ hss.flatten.length := by
  have e : hss = hss.take i ++ hss[i] :: hss.drop (i + 1) := by rw [← List.drop_eq_getElem_cons hi, List.take_append_drop]
  have e2 : hss.flatten.length = (hss.take i).flatten.length + (hss[i].length + (hss.drop (i + 1)).flatten.length) := by
    conv => lhs; rw [e]
    rw [List.flatten_append, List.flatten_cons, List.length_append, List.length_append]
  omega
theorem bk_len (ok : TbOk S n N k hss L) (s : Nat) : (hsAt hss s).length ≤ liv L := by
  unfold hsAt
  by_cases h : s < hss.length
  · rw [List.getD_eq_getElem?_getD, List.getElem?_eq_getElem h, Option.getD_some]
    have h1 := flat_len h
    have h2 := sum_ge ok.snap_ne
    rw [ok.sumq, ok.snap_srt.2.length_eq] at h2
    omega
  · rw [List.getD_eq_getElem?_getD, List.getElem?_eq_none (by omega)]
    exact Nat.zero_le _
theorem not_full (ok : TbOk S n N k hss L) {M : Nat} (h : liv L ≤ M) (h1 : M < n) (h2 : M < N) (s : Nat) (t r : Int) : ¬ fullB n (hsAt hss s) L t r := by
  unfold fullB
  have := bk_len ok s
  have := ok.ll
  intro e
  rcases e with ⟨_, e⟩ | e
  · omega
  · omega
theorem liv_tkU (L : List Bool) : liv (tkL L) ≤ liv L + 1 := by
  by_cases h : fre L < L.length
  · exact Nat.le_of_eq (liv_tk h)
  · unfold tkL
    rw [if_neg h]
    exact Nat.le_succ _
theorem liv_ask (most : Nat) (hs : List Hq) (L : List Bool) (t r txn m : Int) : liv (askBS most hs L t r txn m).2 ≤ liv L + 1 := by
  unfold askBS
  split
  · exact liv_tkU L
  · exact Nat.le_succ _
theorem liv_askT (most : Nat) (hss : List (List Hq)) (L : List Bool) (t r txn m : Int) : liv (askTS most hss L t r txn m).2 ≤ liv L + 1 := by
  unfold askTS
  split
  · exact Nat.le_succ _
  · exact liv_ask _ _ _ _ _ _ _
theorem at_set {hss : List (List Hq)} {i s : Nat} {x : List Hq} : hsAt (hss.set i x) s = if i = s ∧ i < hss.length then x else hsAt hss s := by
  unfold hsAt
  rw [List.getD_eq_getElem?_getD, List.getD_eq_getElem?_getD, List.getElem?_set]
  by_cases h : i = s
  · subst h
    by_cases h2 : i < hss.length
    · simp [h2]
    · simp [h2]
  · simp [h]
/-- Asked of another stripe. -/
theorem sim_off (ok : TbOk S n N k hss L) {t r txn m : Int} {s : Nat} (h : ofS t r S ≠ (s : Int)) : hsAt (askTS n hss L t r txn m).1 s = hsAt hss s := by
  unfold askTS
  rw [ok.sl]
  by_cases e : ofS t r S = -1
  · rw [if_pos e]
  · rw [if_neg e]
    have hr := ofS_range t r S
    show hsAt (hss.set _ _) s = _
    rw [at_set, if_neg (by omega)]
/-- Asked of this stripe, in both. -/
theorem sim_on (ok : TbOk S n N k hss L) (ok' : TbOk S n N k' hst R) {M : Nat} (h1 : liv L ≤ M) (h2 : liv R ≤ M) (hn : M < n) (hN : M < N) {t r txn m : Int} {s : Nat} (h : ofS t r S = (s : Int)) (hs : SimB (hsAt hss s) (hsAt hst s)) :
    SimB (hsAt (askTS n hss L t r txn m).1 s) (hsAt (askTS n hst R t r txn m).1 s) := by
  have hr := ofS_range t r S
  have hl : s < S := by omega
  unfold askTS
  rw [ok.sl, ok'.sl, h, if_neg (by omega), if_neg (by omega), Int.toNat_natCast]
  show SimB (hsAt (hss.set s _) s) (hsAt (hst.set s _) s)
  rw [at_set, at_set, if_pos ⟨rfl, by rw [ok.sl]; exact hl⟩, if_pos ⟨rfl, by rw [ok'.sl]; exact hl⟩]
  exact ask_sim hs t r txn m (not_full ok h1 hn hN s t r) (not_full ok' h2 hn hN s t r)
end
end Go.Proofs.YtpffldfpabglbaaGreatDoor.tableApart
end

/- The developers' table: Get, Find, Counts, Caps. -/
section
namespace Go.Proofs.YtpffldfpabglbaaGreatDoor
open Go.RowKit Go.Shelf
set_option linter.unusedVariables false      -- a contract need not use every name

section
variable {W : World} {o S n N k : Nat} {C : Cps} {hss : List (List Hq)} {L : List Bool} {J : Nat → Prop}
theorem stripe_t (h : Tab W o S n N k C hss L J) (t r : Int) : Calls Tryz.prog 20 #[.pointer (some ⟨o, 0, none⟩), .agg #[.int .i64 t, .int .i64 r]] W fun e W' => e = .returned (.int .i64 (ofS t r S)) ∧ Nw W W' := by
  obtain ⟨bb, cp, hb, po, ds, hv, F, hm, hp, rfl, rfl, ok⟩ := h
  have := stripe_d hm.st t r
  rw [show ds.length = S by rw [← hss_len]; exact ok.sl] at this
  exact this
end
end Go.Proofs.YtpffldfpabglbaaGreatDoor
end

/- The developers' table: possible, New. -/
section
namespace Go.Proofs.YtpffldfpabglbaaGreatDoor
open Go.RowKit Go.Shelf
set_option linter.unusedVariables false      -- a contract need not use every name

def ptrow (p : Nat) : List Value := [ptN p]
theorem elemPt : Elem Tryz.prog 87 90 1 8 ptrow where
  und := Tryz.underlying87
  inf := by
    have h : (Tryz.prog.info? 90).map (fun i => (i.zero.map fun z => z.cells.size, i.size, i.bytes)) = some (some 1, 1, 8) := by kernel_rfl
    cases e : Tryz.prog.info? 90 with
    | none => rw [e] at h; cases h
    | some i =>
      rw [e] at h
      simp only [Option.map_some, Option.some.injEq, Prod.mk.injEq] at h
      obtain ⟨h1, h2, h3⟩ := h
      cases ez : i.zero with
      | none => rw [ez] at h1; cases h1
      | some z => rw [ez] at h1; exact ⟨i, z, rfl, ez, h2, h3, Option.some.inj h1⟩
  pos := by decide
  byt := by decide
  len := fun _ => rfl
  one := fun a u hu => by
    simp only [ptrow, List.mem_cons, List.not_mem_nil, or_false] at hu
    subst hu
    rfl
theorem within_any (a l m : Int) (b : Bool) (hb : (decide (l ≤ a) && decide (a ≤ m)) = b) (w : World) : Calls Tryz.prog 93 #[.int .i64 a, .int .i64 l, .int .i64 m] w fun e w' => e = .returned (.bool b) ∧ w = w' := by
  subst hb
  by_cases h1 : l ≤ a
  · have d1 : decide (l ≤ a) = true := by simpa using h1
    rw [d1]
    go_enter Tryz.func93, Tryz.ntmps93
    go_wp2
    go_ret
    exact ⟨rfl, rfl⟩
  · have d1 : decide (l ≤ a) = false := by simpa using h1
    rw [d1]
    clear h1
    go_enter Tryz.func93, Tryz.ntmps93
    go_wp2
    go_ret
    exact ⟨rfl, rfl⟩
/-- Caps that a table may have. -/
def CapsOk (C : Cps) : Prop := (1 ≤ C.s ∧ C.s ≤ 16) ∧ (1 ≤ C.h ∧ C.h ≤ 64) ∧ (1 ≤ C.r ∧ C.r ≤ 128) ∧ (0 ≤ C.p ∧ C.p ≤ 8)
instance (C : Cps) : Decidable (CapsOk C) := by unfold CapsOk; infer_instance
set_option maxHeartbeats 2000000 in
theorem possible_any (C : Cps) (w : World) : Calls Tryz.prog 43 #[capV C] w fun e w' => e = .returned (.bool (decide (CapsOk C))) ∧ Nw w w' := by
  obtain ⟨a, b, c, d⟩ := C
  obtain ⟨b1, h1⟩ : ∃ x, (decide ((1 : Int) ≤ a) && decide (a ≤ 16)) = x := ⟨_, rfl⟩
  obtain ⟨b2, h2⟩ : ∃ x, (decide ((1 : Int) ≤ b) && decide (b ≤ 64)) = x := ⟨_, rfl⟩
  obtain ⟨b3, h3⟩ : ∃ x, (decide ((1 : Int) ≤ c) && decide (c ≤ 128)) = x := ⟨_, rfl⟩
  obtain ⟨b4, h4⟩ : ∃ x, (decide ((0 : Int) ≤ d) && decide (d ≤ 8)) = x := ⟨_, rfl⟩
  have hR : decide (CapsOk ⟨a, b, c, d⟩) = (b1 && (b2 && (b3 && b4))) := by
    rw [← h1, ← h2, ← h3, ← h4]
    unfold CapsOk
    rw [Bool.eq_iff_iff]
    simp only [decide_eq_true_eq, Bool.and_eq_true]
    exact decide_eq_true_iff
  rw [hR]
  have H1 := Lib.hid (fun w => within_any a 1 16 b1 h1 w)
  have H2 := Lib.hid (fun w => within_any b 1 64 b2 h2 w)
  have H3 := Lib.hid (fun w => within_any c 1 128 b3 h3 w)
  have H4 := Lib.hid (fun w => within_any d 0 8 b4 h4 w)
  have HG := Lib.hid ((Nw.refl w).alloc (.cells #[.int .i64 a, .int .i64 b, .int .i64 c, .int .i64 d] 23))
  clear h1 h2 h3 h4 hR
  cases b1
  · go_enter Tryz.func43, Tryz.ntmps43
    go_wp2_with (go_at_call 93; (with_reducible refine (H1.out _).mono ?_); rintro e w' ⟨rfl, rfl⟩)
    go_ret
    exact ⟨rfl, HG.out⟩
  cases b2
  · go_enter Tryz.func43, Tryz.ntmps43
    go_wp2_with (go_at_call 93; (first | (with_reducible refine (H1.out _).mono ?_) | (with_reducible refine (H2.out _).mono ?_)); rintro e w' ⟨rfl, rfl⟩)
    go_ret
    exact ⟨rfl, HG.out⟩
  cases b3
  · go_enter Tryz.func43, Tryz.ntmps43
    go_wp2_with (go_at_call 93; (first | (with_reducible refine (H1.out _).mono ?_) | (with_reducible refine (H2.out _).mono ?_) | (with_reducible refine (H3.out _).mono ?_)); rintro e w' ⟨rfl, rfl⟩)
    go_ret
    exact ⟨rfl, HG.out⟩
  · go_enter Tryz.func43, Tryz.ntmps43
    go_wp2_with (go_at_call 93; (first | (with_reducible refine (H1.out _).mono ?_) | (with_reducible refine (H2.out _).mono ?_) | (with_reducible refine (H3.out _).mono ?_) | (with_reducible refine (H4.out _).mono ?_)); rintro e w' ⟨rfl, rfl⟩)
    go_ret
    exact ⟨rfl, HG.out⟩
/-! ### New -/
/-- Between two rounds of New. -/
structure NewT (W : World) (o hb po n : Nat) (C : Cps) (v : Value) (ds : List DB) (L : List Bool) (F : Nat → Prop) (X : World) : Prop where
  c0 : X.cell? ⟨o, 0, none⟩ = some (.pointer none)
  c1 : X.cell? ⟨o, 1, none⟩ = some (.int .i64 C.s)
  c2 : X.cell? ⟨o, 2, none⟩ = some (.int .i64 C.h)
  c3 : X.cell? ⟨o, 3, none⟩ = some (.int .i64 C.r)
  c4 : X.cell? ⟨o, 4, none⟩ = some (.int .i64 C.p)
  c5 : X.cell? ⟨o, 5, none⟩ = some (ptN po)
  c6 : X.cell? ⟨o, 6, none⟩ = some v
  c7 : X.cell? ⟨o, 7, none⟩ = some (.map (some hb))
  fz : ∀ j, X.frozen? ⟨o, j, none⟩ = false
  own : Own 90 1 ptrow X (o + 1) v (ds.map DB.o)
  map : MapI X hb []
  db : DtB X po n ds L F
  em : ∀ d ∈ ds, d.l = [] ∧ o < d.o ∧ o < d.mb ∧ ∀ b, v.ownBlock = some b → b ≠ d.o ∧ b ≠ d.mb
  nw : Nw W X
  ho : hb + 1 = o
  hw : W.heap.size ≤ hb
  hF : ∀ k, F k → k < hb ∧ W.heap.size ≤ k
theorem NewT.step {W X Y : World} {o hb po n : Nat} {C : Cps} {v : Value} {ds : List DB} {L : List Bool} {F : Nat → Prop} (h : NewT W o hb po n C v ds L F X) (g : Nw X Y) : NewT W o hb po n C v ds L F Y := by
  have hl := World.block_lt_of_cell? _ _ h.c0
  exact ⟨g.kp h.c0, g.kp h.c1, g.kp h.c2, g.kp h.c3, g.kp h.c4, g.kp h.c5, g.kp h.c6, g.kp h.c7, fun j => (g.froz hl).trans (h.fz j), onw h.own g, h.map.nw g, h.db.nw g, h.em, h.nw.trans g, h.ho, h.hw, h.hF⟩
theorem NewT.push {W X : World} {o hb po n : Nat} {C : Cps} {v : Value} {ds : List DB} {L : List Bool} {F : Nat → Prop} (h : NewT W o hb po n C v ds L F X) (hl : ds.length ≤ 100) {B mb : Nat} (hB : Db X B mb po n [] L F) (h1 : o < B) (h2 : o < mb) (hne : ∀ d ∈ ds, mb ≠ d.mb) (hv : ∀ b, v.ownBlock = some b → b ≠ B ∧ b ≠ mb) :
    ∃ g cap w3, (Builtin.append_ #[87, 87] 87 #[v, .slice (some ⟨X.heap.size, 0, none⟩) 1 1]).run Tryz.prog (X.alloc (.cells #[ptN B] 90)) = .ok (.slice (some ⟨g, 0, none⟩) (ds.length + 1) cap) w3 ∧
      (w3.cell? ⟨o, 6, none⟩ = some v ∧ w3.frozen? ⟨o, 6, none⟩ = false ∧ o < w3.heap.size) ∧ NewT W o hb po n C (.slice (some ⟨g, 0, none⟩) (ds.length + 1) cap) (ds ++ [⟨B, mb, []⟩]) L F (w3.setCell ⟨o, 6, none⟩ (.slice (some ⟨g, 0, none⟩) (ds.length + 1) cap)) ∧ ∀ b, b < o → (w3.setCell ⟨o, 6, none⟩ (.slice (some ⟨g, 0, none⟩) (ds.length + 1) cap)).heap[b]? = X.heap[b]? := by
  have hol := World.block_lt_of_cell? _ _ h.c0
  simp only at hol
  have hal := allocAt X (.cells #[ptN B] 90)
  have g0 : Nw X (X.alloc (.cells #[ptN B] 90)) := (Nw.refl X).alloc _
  obtain ⟨y, hy⟩ : ∃ y, X.alloc (.cells #[ptN B] 90) = y := ⟨_, rfl⟩
  rw [hy] at hal g0
  rw [hy]
  have hs := h.step g0
  have hBy := hB.nw g0
  obtain ⟨v', w3, hr, hO, hg, hp, g, cap, rfl⟩ := Own.push elemPt hs.own B X.heap.size 1 (fun j u hu => by
    rw [hcell hal]
    simpa [ptrow] using hu) (by rw [List.length_map]; omega) (by have := g0.sz; omega)
  rw [List.length_map] at hr hp hO
  have hgo : o < g := oge hO rfl
  have t := gro_tch hg
  have hvo : ∀ b, v.ownBlock = some b → o < b := fun b e => oge h.own e
  have hvlt : ∀ b, v.ownBlock = some b → b < X.heap.size := fun b e => olt h.own e
  have hyl := hlt hal
  have hSo : ¬ (v.ownBlock = some o) := fun e => by have := hvo o e; omega
  have hoy : o < y.heap.size := Nat.lt_of_lt_of_le hol g0.sz
  obtain ⟨z, hz⟩ : ∃ z, w3.setCell ⟨o, 6, none⟩ (.slice (some ⟨g, 0, none⟩) (ds.length + 1) cap) = z := ⟨_, rfl⟩
  have t2 : Tch (fun b => b = o) w3 z := by rw [← hz]; exact setCell_at w3 ⟨o, 6, none⟩ _
  have hor : o < w3.heap.size := Nat.lt_of_lt_of_le hoy t.size
  have tt : Tch (fun b => v.ownBlock = some b ∨ b = o) y z := (t.mono fun _ _ e => .inl e).trans (t2.mono fun _ _ e => .inr e)
  have ct : ∀ {j : Nat} {u : Value}, j ≠ 6 → y.cell? ⟨o, j, none⟩ = some u → z.cell? ⟨o, j, none⟩ = some u := fun {j u} hj hc => by
    rw [← hz, World.cell?_setCell_other _ _ _ _ (by first | (simp; done) | (simp; exact fun e => hj e))]
    exact (t.cell hoy hSo).trans hc
  have c6' : w3.cell? ⟨o, 6, none⟩ = some v := (t.cell hoy hSo).trans hs.c6
  have hf' : ∀ j, w3.frozen? ⟨o, j, none⟩ = false := fun j => (t.froz hoy hSo).trans (hs.fz j)
  have hgn : ∀ b, (g = b) → v.ownBlock = some b ∨ b = y.heap.size := fun b e => by
    rcases hp with q | q
    · exact .inl (q.symm.trans (congrArg some e))
    · exact .inr (e.symm.trans (Option.some.inj q))
  have hdn : ∀ d ∈ ds, ¬ (v.ownBlock = some d.o ∨ d.o = o) ∧ ¬ (v.ownBlock = some d.mb ∨ d.mb = o) := fun d hd => by
    obtain ⟨_, k1, k2, k3⟩ := h.em d hd
    exact ⟨fun e => e.elim (fun e => (k3 _ e).1 rfl) (fun e => by omega), fun e => e.elim (fun e => (k3 _ e).2 rfl) (fun e => by omega)⟩
  have hFn : ∀ k, F k → ¬ (v.ownBlock = some k ∨ k = o) := fun k hk e => by
    have := h.hF k hk
    have := h.ho
    exact e.elim (fun e => by have := hvo k e; omega) (fun e => by omega)
  have hbk : ∀ b, b < o → z.heap[b]? = X.heap[b]? := fun b hb => by
    rw [tt.block b (by omega) (fun e => e.elim (fun e => by have := hvo b e; omega) (fun e => by omega)), g0.block b (by omega)]
  refine ⟨g, cap, w3, hr, ⟨c6', hf' 6, hor⟩, ?_, by rw [hz]; exact hbk⟩
  rw [hz]
  refine ⟨ct (by decide) hs.c0, ct (by decide) hs.c1, ct (by decide) hs.c2, ct (by decide) hs.c3, ct (by decide) hs.c4, ct (by decide) hs.c5, by rw [← hz]; exact World.cell?_setCell_same _ _ _ c6', ct (by decide) hs.c7, fun j => by rw [← hz, World.frozen?_setCell]; exact hf' j, ?_, ?_, ⟨?_, ?_, ?_⟩, ?_, ?_, h.ho, h.hw, h.hF⟩
  · have em : (ds ++ [(⟨B, mb, []⟩ : DB)]).map DB.o = ds.map DB.o ++ [B] := by simp
    rw [em]
    have := own_tchS hO t2 (fun b hb e => by have e' : g = b := Option.some.inj hb; omega)
    exact this
  · exact hs.map.tch tt (fun e => by
      have := h.ho
      exact e.elim (fun e => by have := hvo _ e; omega) (fun e => by omega))
  · intro d hd
    rcases List.mem_append.1 hd with q | q
    · have k := hs.db.db d q
      rw [(h.em d q).1] at k ⊢
      exact k.tch tt (hdn d q).1 (hdn d q).2 hFn (fun x hx => by cases hx)
    · obtain rfl : d = ⟨B, mb, []⟩ := by simpa using q
      exact hBy.tch tt (fun e => e.elim (fun e => (hv _ e).1 rfl) (fun e => by have e' : B = o := e; omega)) (fun e => e.elim (fun e => (hv _ e).2 rfl) (fun e => by have e' : mb = o := e; omega)) hFn (fun x hx => by cases hx)
  · intro i j hi hj ne
    rw [List.length_append, List.length_singleton] at hi hj
    by_cases q1 : i < ds.length
    · rw [List.getElem_append_left q1]
      by_cases q2 : j < ds.length
      · rw [List.getElem_append_left q2]
        exact h.db.ne i j q1 q2 ne
      · rw [List.getElem_append_right (by omega)]
        simp only [List.getElem_singleton]
        exact (hne _ (List.getElem_mem q1)).symm
    · rw [List.getElem_append_right (by omega)]
      have q2 : j < ds.length := by omega
      rw [List.getElem_append_left q2]
      simp only [List.getElem_singleton]
      exact hne _ (List.getElem_mem q2)
  · exact hs.db.pol.tch tt hFn
  · intro d hd
    have hyB := hB.ol
    have hyM := hB.map.lt
    have hys := g0.sz
    rcases List.mem_append.1 hd with q | q
    · obtain ⟨k0, k1, k2, k3⟩ := h.em d q
      have k4 := (h.db.db d q).ol
      have k5 := (h.db.db d q).map.lt
      refine ⟨k0, k1, k2, fun b e => ?_⟩
      rcases hgn b (Option.some.inj e) with e | e
      · exact k3 b e
      · exact ⟨by omega, by omega⟩
    · obtain rfl : d = ⟨B, mb, []⟩ := by simpa using q
      refine ⟨rfl, h1, h2, fun b e => ?_⟩
      rcases hgn b (Option.some.inj e) with e | e
      · exact hv b e
      · exact show b ≠ B ∧ b ≠ mb from ⟨by omega, by omega⟩
  · refine nw_tch hs.nw tt (fun k e => ?_)
    have := h.ho
    have := h.hw
    exact e.elim (fun e => by have := hvo k e; omega) (fun e => by omega)
/-- The table that New makes. -/
theorem newT_start {W X : World} {po n : Nat} {C : Cps} {L : List Bool} {F : Nat → Prop} (hp : Pol X po L F) (g : Nw W X) (hF : ∀ k, F k → W.heap.size ≤ k) (T : TypeId) :
    NewT W (X.heap.size + 1) X.heap.size po n C (.slice none 0 0) [] L F ((X.alloc (.map #[] 0)).alloc (.cells #[.pointer none, .int .i64 C.s, .int .i64 C.h, .int .i64 C.r, .int .i64 C.p, ptN po, .slice none 0 0, .map (some X.heap.size)] T)) := by
  have hs1 : (X.alloc (.map #[] 0)).heap.size = X.heap.size + 1 := by simp
  have hb := allocAt (X.alloc (.map #[] 0)) (.cells #[.pointer none, .int .i64 C.s, .int .i64 C.h, .int .i64 C.r, .int .i64 C.p, ptN po, .slice none 0 0, .map (some X.heap.size)] T)
  rw [hs1] at hb
  have hN : Nw X ((X.alloc (.map #[] 0)).alloc (.cells #[.pointer none, .int .i64 C.s, .int .i64 C.h, .int .i64 C.r, .int .i64 C.p, ptN po, .slice none 0 0, .map (some X.heap.size)] T)) := ((Nw.refl X).alloc _).alloc _
  have hM := (MapI.made X).nw ((Nw.refl _).alloc (.cells #[.pointer none, .int .i64 C.s, .int .i64 C.h, .int .i64 C.r, .int .i64 C.p, ptN po, .slice none 0 0, .map (some X.heap.size)] T))
  generalize (X.alloc (.map #[] 0)).alloc (.cells #[.pointer none, .int .i64 C.s, .int .i64 C.h, .int .i64 C.r, .int .i64 C.p, ptN po, .slice none 0 0, .map (some X.heap.size)] T) = z at *
  exact ⟨hcell (j := 0) hb, hcell (j := 1) hb, hcell (j := 2) hb, hcell (j := 3) hb, hcell (j := 4) hb, hcell (j := 5) hb, hcell (j := 6) hb, hcell (j := 7) hb, fun j => hfz hb, World.ownsRow_nil _ _ _ _, hM, ⟨(fun d hd => by cases hd), (fun i j hi => by simp at hi), hp.nw hN⟩, (fun d hd => by cases hd), g.trans hN, rfl, g.sz, fun k hk => ⟨hp.own k hk, hF k hk⟩⟩
theorem hss_nil {ds : List DB} (h : ∀ d ∈ ds, d.l = []) : hssD ds = List.replicate ds.length [] := by
  unfold hssD
  refine List.eq_replicate_iff.2 ⟨by rw [List.length_map], fun x hx => ?_⟩
  obtain ⟨d, hd, rfl⟩ := List.mem_map.1 hx
  rw [h d hd]
  rfl
theorem hv_nil {ds : List DB} (h : ∀ d ∈ ds, d.l = []) : hvT ds = [] := by
  unfold hvT
  rw [List.flatMap_eq_nil_iff]
  intro d hd
  rw [h d hd]
  rfl
theorem NewT.done {W X : World} {o hb po n S N : Nat} {C : Cps} {g cap : Nat} {ds : List DB} {F : Nat → Prop} (h : NewT W o hb po n C (.slice (some ⟨g, 0, none⟩) ds.length cap) ds (List.replicate N false) F X) (hl : ds.length = S) :
    ∃ J, Tab (X.setCell ⟨o, 0, none⟩ (ptN o)) o S n N 0 C (List.replicate S []) (List.replicate N false) J ∧ Nw W (X.setCell ⟨o, 0, none⟩ (ptN o)) ∧ ∀ b, J b → W.heap.size ≤ b := by
  have hol := World.block_lt_of_cell? _ _ h.c0
  simp only at hol
  obtain ⟨z, hz⟩ : ∃ z, X.setCell ⟨o, 0, none⟩ (ptN o) = z := ⟨_, rfl⟩
  have t : Tch (fun b => b = o) X z := by rw [← hz]; exact setCell_at X ⟨o, 0, none⟩ _
  have hgo : o < g := oge h.own rfl
  have hgl : g < X.heap.size := olt h.own rfl
  have ho1 := h.ho
  have hw1 := h.hw
  have ct : ∀ {j : Nat} {u : Value}, j ≠ 0 → X.cell? ⟨o, j, none⟩ = some u → z.cell? ⟨o, j, none⟩ = some u := fun {j u} hj hc => by
    rw [← hz, World.cell?_setCell_other _ _ _ _ (by first | (simp; done) | (simp; exact fun e => hj e))]
    exact hc
  have hdb : DtB z po n ds (List.replicate N false) F := by
    refine h.db.tchS t fun b hb e => ?_
    have e' : b = o := e
    rcases hb with hb | ⟨d, hd, hb | hb | ⟨x, hx, _⟩⟩
    · have := h.hF b hb; omega
    · have := (h.em d hd).2.1; omega
    · have := (h.em d hd).2.2.1; omega
    · rw [(h.em d hd).1] at hx; cases hx
  have hin : ∀ b, DtIn ds F b → b ≠ o ∧ b ≠ g ∧ b ≠ hb ∧ W.heap.size ≤ b := fun b hb' => by
    rcases hb' with hb' | ⟨d, hd, hb' | hb' | ⟨x, hx, _⟩⟩
    · have := h.hF b hb'; exact ⟨by omega, by omega, by omega, by omega⟩
    · have k := h.em d hd
      have k2 := k.2.1
      have k3 := (k.2.2.2 g rfl).1
      exact ⟨by omega, fun e => k3 (by omega), by omega, by omega⟩
    · have k := h.em d hd
      have k2 := k.2.2.1
      have k3 := (k.2.2.2 g rfl).2
      exact ⟨by omega, fun e => k3 (by omega), by omega, by omega⟩
    · rw [(h.em d hd).1] at hx; cases hx
  have hem : ∀ d ∈ ds, d.l = [] := fun d hd => (h.em d hd).1
  rw [hz]
  refine ⟨TbJ o g hb ds F, ⟨g, cap, hb, po, ds, [], F, ⟨by rw [← hz]; exact World.cell?_setCell_same _ _ _ h.c0, ct (by decide) h.c1, ct (by decide) h.c2, ct (by decide) h.c3, ct (by decide) h.c4, ct (by decide) h.c5, ct (by decide) h.c6, ct (by decide) h.c7, fun i hi => ?_, Nat.lt_of_lt_of_le hgl t.size, h.map.tch t (by show ¬ hb = o; omega), hdb, fun e => (hin _ e).1 rfl, fun e => (hin _ e).2.1 rfl, fun e => (hin _ e).2.2.1 rfl, by omega⟩, by rw [hv_nil hem], by rw [hss_nil hem, hl], rfl, tbok_nil S n N⟩, nw_tch h.nw t (fun k e => by have e' : k = o := e; omega), fun b hb' => ?_⟩
  · refine (t.cell hgl (by show ¬ g = o; omega)).trans ?_
    obtain ⟨a, c, e, q | ⟨b, o', rfl, hc⟩⟩ := Own.rd elemPt.len h.own
    · have := congrArg List.length q.1
      rw [List.length_map] at this
      simp at this
      rw [this] at hi
      simp at hi
    · simp only [Value.slice.injEq, Option.some.injEq, Addr.mk.injEq, and_true] at e
      obtain ⟨⟨rfl, rfl⟩, _⟩ := e
      have := hc.cell i (by rw [List.length_map]; exact hi) 0 (ptN ds[i].o) (by simp [ptrow])
      simpa using this
  · rcases hb' with e | e | e | e
    · omega
    · omega
    · omega
    · exact (hin b e).2.2.2
/-- What New gives. -/
def MadeT (W : World) (S n N : Nat) (p : Int) (e : Ending) (W' : World) : Prop := ∃ o J, e = .returned (.tuple #[ptN o, .int .i64 0]) ∧ Tab W' o S n N 0 ⟨S, n, N, p⟩ (List.replicate S []) (List.replicate N false) J ∧ Nw W W' ∧ ∀ b, J b → W.heap.size ≤ b
set_option maxRecDepth 20000 in
set_option maxHeartbeats 4000000 in
theorem newT_d (S n N : Nat) (p : Int) (h : CapsOk ⟨S, n, N, p⟩) (W : World) : Calls Tryz.prog 9 #[.agg #[.int .i64 S, .int .i64 n, .int .i64 N, .int .i64 p]] W (MadeT W S n N p) := by
  have hmm := @run_makeMap Tryz.prog
  obtain ⟨⟨s1, s2⟩, ⟨n1, n2⟩, ⟨N1, N2⟩, _⟩ := id h
  simp only at s1 s2 n1 n2 N1 N2
  have HS := Lib.hid (And.intro (show 1 ≤ S ∧ S ≤ 16 by omega) (And.intro (show 1 ≤ n ∧ n ≤ 64 by omega) (show N ≤ 128 by omega)))
  have hPo := possible_any ⟨S, n, N, p⟩
  rw [decide_eq_true h] at hPo
  have HPo := Lib.hid hPo
  have hal := allocAt W (.cells #[.int .i64 S, .int .i64 n, .int .i64 N, .int .i64 p] 23)
  obtain ⟨z, hz⟩ : ∃ z, W.alloc (.cells #[.int .i64 S, .int .i64 n, .int .i64 N, .int .i64 p] 23) = z := ⟨_, rfl⟩
  have g1 : Nw W z := by rw [← hz]; exact (Nw.refl W).alloc _
  rw [hz] at hal
  have HZ := Lib.hid hz
  have HG := Lib.hid (And.intro g1 hal)
  have c0 := hcell (j := 0) hal
  have c1 := hcell (j := 1) hal
  have c2 := hcell (j := 2) hal
  have c3 := hcell (j := 3) hal
  have cl := hlt hal
  clear hz g1 hal s1 s2 n1 n2 N1 N2 h hPo
  go_enter Tryz.func9, Tryz.ntmps9
  go_wp2_with fail
  rw [HZ.out]
  obtain ⟨cb, hcb⟩ : ∃ cb, W.heap.size = cb := ⟨_, rfl⟩
  have HCb := Lib.hid hcb
  rw [hcb] at c0 c1 c2 c3 cl ⊢
  clear hcb
  refine (HPo.out z).mono ?_
  rintro e z1 ⟨rfl, g1⟩
  have HG1 := Lib.hid (show Nw W z1 ∧ z1.heap[cb]? = some (.cells #[.int .i64 S, .int .i64 n, .int .i64 N, .int .i64 p] 23) from ⟨HG.out.1.trans g1, by rw [← HCb.out]; exact g1.at' HG.out.2⟩)
  clear c0 c1 c2 c3 cl g1 HG
  have c0 := hcell (j := 0) HG1.out.2
  have c1 := hcell (j := 1) HG1.out.2
  have c2 := hcell (j := 2) HG1.out.2
  have c3 := hcell (j := 3) HG1.out.2
  have cl := hlt HG1.out.2
  go_wp2_with fail
  refine (pnew_any N HS.out.2.2 z1).mono ?_
  rintro e z2 ⟨po, F, rfl, hp, g2, hF⟩
  have HG2 := Lib.hid (show Nw W z2 ∧ z2.heap[cb]? = some (.cells #[.int .i64 S, .int .i64 n, .int .i64 N, .int .i64 p] 23) from ⟨HG1.out.1.trans g2, g2.at' HG1.out.2⟩)
  clear c0 c1 c2 c3 cl
  have c0 := hcell (j := 0) HG2.out.2
  have c1 := hcell (j := 1) HG2.out.2
  have c2 := hcell (j := 2) HG2.out.2
  have c3 := hcell (j := 3) HG2.out.2
  have cl := hlt HG2.out.2
  have HT := Lib.hid (newT_start (C := ⟨S, n, N, p⟩) (n := n) hp HG2.out.1 (fun k hk => Nat.le_trans HG1.out.1.sz (hF k hk)) 89)
  clear hp g2 hF HG1
  go_wp2_with fail
  go_loopw [7, 8, 25] (fun _ _ i wr => ∃ (j : Nat) (s0 : Option Addr) (s1 s2 : Nat) (ds : List DB), i = .int .i64 j ∧ j ≤ S ∧ Hid (NewT W (z2.heap.size + 1) z2.heap.size po n ⟨S, n, N, p⟩ (.slice s0 s1 s2) ds (List.replicate N false) F wr ∧ ds.length = j ∧ (s0 = none → ds = []) ∧ wr.heap[cb]? = some (.cells #[.int .i64 S, .int .i64 n, .int .i64 N, .int .i64 p] 23))) (fun _ _ i _ => S - (intOf i).toNat)
  case atStart => exact ⟨0, none, 0, 0, [], rfl, Nat.zero_le _, HT.out, rfl, fun _ => rfl, (((Nw.refl z2).alloc _).alloc _).at' HG2.out.2⟩
  case round =>
    obtain ⟨j, s0, s1', s2', ds, rfl, hj, HI⟩ := hrel
    by_cases hjl : j < S
    · have hnt := HI.out.1
      have HNw := Lib.hid (new_d hnt.db.pol n HS.out.2.1.1 HS.out.2.1.2)
      have c1 := hcell (j := 1) HI.out.2.2.2
      have cl := hlt HI.out.2.2.2
      have hji : (j : Int) < (S : Int) := by omega
      have hwj : wrap64 ((j : Int) + 1) = (j : Int) + 1 := by have := HS.out.1.2; unfold wrap64; omega
      clear hnt c0 c2 c3
      go_wp2_with fail
      refine HNw.out.mono ?_
      rintro e w2 ⟨B, mb, rfl, hB, g2, hBo, hBm⟩
      have hnt := HI.out.1.step g2
      have hor := World.block_lt_of_cell? _ _ HI.out.1.c0
      simp only at hor
      obtain ⟨g, cap, w3, hrun, hst, hnx, hbk⟩ := hnt.push (by have := HI.out.2.1; have := HS.out.1.2; omega) hB (by omega) (by omega) (fun d hd => by have := (HI.out.1.db.db d hd).map.lt; omega) (fun b e => by have := olt HI.out.1.own e; exact ⟨by omega, by omega⟩)
      have HR := Lib.hid hrun
      have c6 := hnt.c6
      have hol2 := World.block_lt_of_cell? _ _ hnt.c0
      simp only at hol2
      obtain ⟨t1, t2, t3⟩ := hst
      have hcl := hlt HG2.out.2
      have HI3 := Lib.hid (show NewT W (z2.heap.size + 1) z2.heap.size po n ⟨S, n, N, p⟩ (.slice (some ⟨g, 0, none⟩) (ds.length + 1) cap) (ds ++ [⟨B, mb, []⟩]) (List.replicate N false) F (w3.setCell ⟨z2.heap.size + 1, 6, none⟩ (.slice (some ⟨g, 0, none⟩) (ds.length + 1) cap)) ∧ (ds ++ [(⟨B, mb, []⟩ : DB)]).length = j + 1 ∧ (some (⟨g, 0, none⟩ : Addr) = none → ds ++ [(⟨B, mb, []⟩ : DB)] = []) ∧ (w3.setCell ⟨z2.heap.size + 1, 6, none⟩ (.slice (some ⟨g, 0, none⟩) (ds.length + 1) cap)).heap[cb]? = some (.cells #[.int .i64 S, .int .i64 n, .int .i64 N, .int .i64 p] 23) from
        ⟨hnx, by rw [List.length_append, HI.out.2.1]; rfl, (fun e => by cases e), (hbk cb (by omega)).trans (g2.at' HI.out.2.2.2)⟩)
      clear hrun hnx hnt hB hBo hBm hor HNw HI hbk hcl
      go_wp2_with (at_builtin; refine wpl_app (by rfl) (.tmp 38) (.tmp 40) 87 rfl _ _ _ _ (by first | rfl | simp [Act.eval, *]) (by first | rfl | simp [Act.eval, *]) HR.out ?_)
      go_roundw
      case rel => exact ⟨j + 1, _, _, _, _, congrArg (Value.int .i64) (by first | exact nxU j | exact hwj.trans (nxU j)), hjl, HI3⟩
      case measure => first | exact downU S j hjl | (rw [hwj]; exact downU S j hjl)
    · obtain rfl : j = S := by omega
      have hnt := HI.out.1
      have hlen := HI.out.2.1
      obtain ⟨g, rfl⟩ : ∃ g, s0 = some ⟨g, 0, none⟩ := by
        rcases oform hnt.own with ⟨e, q⟩ | ⟨g, cap, e⟩
        · rw [List.length_map] at q
          have := HS.out.1.1
          omega
        · simp only [Value.slice.injEq] at e
          exact ⟨g, e.1⟩
      have hs1 : s1' = ds.length := by
        obtain ⟨a, c, e, _⟩ := Own.rd elemPt.len hnt.own
        simp only [Value.slice.injEq, List.length_map] at e
        exact e.2.1
      rw [hs1] at hnt
      obtain ⟨J, hJ1, hJ2, hJ3⟩ := hnt.done hlen
      have HE := Lib.hid (show MadeT W j n N p (.returned (.tuple #[ptN (z2.heap.size + 1), .int .i64 0])) _ from ⟨_, J, rfl, hJ1, hJ2, hJ3⟩)
      have c0 := hnt.c0
      have fz0 := hnt.fz 0
      have hol := World.block_lt_of_cell? _ _ hnt.c0
      simp only at hol
      clear hnt hJ1 hJ2 hJ3 HI HT
      go_wp2
      exact bodyPost_ret (v := .tuple #[ptN (z2.heap.size + 1), .int .i64 0]) (by simp [results, Tryz.results9, go_sem, *]) rfl HE.out
end Go.Proofs.YtpffldfpabglbaaGreatDoor
end

/- Law 9: empty, lives; the kit's LightHeads. -/
section
namespace Go.Proofs.YtpffldfpabglbaaGreatDoor
open Go.RowKit
set_option linter.unusedVariables false      -- a contract need not use every name

/-- A head in a box. -/
def HB (w : World) (B : Nat) (t r : Int) (v : Value) (W : Int) : Prop := w.heap[B]? = some (.cells #[.int .i64 t, .int .i64 r, v, .int .i64 W] 63)
theorem HB.made (w : World) (t r : Int) (v : Value) (W : Int) : HB (w.alloc (.cells #[.int .i64 t, .int .i64 r, v, .int .i64 W] 63)) w.heap.size t r v W := allocAt w _
theorem HB.nw {w w' : World} {B : Nat} {t r W : Int} {v : Value} (h : HB w B t r v W) (g : Nw w w') : HB w' B t r v W := g.at' h
end Go.Proofs.YtpffldfpabglbaaGreatDoor
end

/- Arguments: a request, a slice of requests, a head; the kit's LightHeads. -/
section
namespace Go.Proofs.YtpffldfpabglbaaGreatDoor
open Go.ChangeShapes Go.WideShapes Go.ChangeAt Go.RowKit Go.Deep
set_option linter.unusedVariables false

theorem list_of {α : Type} {n : Nat} {Q : Nat → α → Prop} (h : ∀ i, i < n → ∃ x, Q i x) : ∃ l : List α, l.length = n ∧ ∀ i (hi : i < l.length), Q i l[i] := by
  induction n with
  | zero => exact ⟨[], rfl, fun i hi => by simp at hi⟩
  | succ n ih =>
    obtain ⟨l, hl, hq⟩ := ih fun i hi => h i (by omega)
    obtain ⟨x, hx⟩ := h n (by omega)
    refine ⟨l ++ [x], by simp [hl], fun i hi => ?_⟩
    rw [List.length_append, List.length_singleton] at hi
    by_cases q : i < l.length
    · rw [List.getElem_append_left q]; exact hq i q
    · have : i = n := by omega
      subst this
      rw [List.getElem_append_right (by omega)]
      simpa using hx
theorem cellsI : Tryz.prog.cellsOf 3 = 1 := by kernel_rfl
theorem cellsMode : Tryz.prog.cellsOf 35 = 1 := by kernel_rfl
theorem cellsNm : Tryz.prog.cellsOf 34 = 2 := by kernel_rfl
section
variable {H : Type} {enc : TypeId × Value → H} {w : World} {base : Nat} {spare : Nat → Bool} {held : Bool}
theorem some_of {α : Type} {xs : List α} {i : Nat} (h : i < xs.length) : ∃ y, xs[i]? = some y := ⟨_, List.getElem?_eq_getElem h⟩
end
end Go.Proofs.YtpffldfpabglbaaGreatDoor
end

/- The table laws: calls that come in. -/
section
namespace Go.Proofs.YtpffldfpabglbaaGreatDoor
open Go.ChangeShapes Go.WideShapes Go.ChangeAt Go.RowKit Go.Deep
set_option linter.unusedVariables false

/-- A call: its kind, a name, a request, a transaction, a mode. -/
structure Cl where
  k : Int
  t : Int
  r : Int
  id : Int
  tx : Int
  md : Int
def clrow (a : Cl) : List Value := [.int .i64 a.k, .int .i64 a.t, .int .i64 a.r, .int .i64 a.id, .int .i64 a.tx, .int .i64 a.md]
/-- Its numbers are of those that an int holds. -/
def Cl.ok (a : Cl) : Prop := Fit a.t ∧ Fit a.r ∧ Fit a.id ∧ Fit a.tx
theorem fit_wf {a : Int} (h : (Lit.int .i64 a).wf = true) : Fit a := by
  unfold Fit
  simp [Lit.wf, IntKind.min, IntKind.max, IntKind.bits, IntKind.signed] at h
  omega
theorem len6 {cs : List Value} (h : cs.length = 6) : ∃ v0 v1 v2 v3 v4 v5, cs = [v0, v1, v2, v3, v4, v5] := by
  match cs, h with
  | [v0, v1, v2, v3, v4, v5], _ => exact ⟨v0, v1, v2, v3, v4, v5, rfl⟩
theorem cellsCl : Tryz.prog.cellsOf 37 = 6 := by kernel_rfl
section
variable {H : Type} {enc : TypeId × Value → H} {w : World} {base : Nat} {spare : Nat → Bool} {held : Bool}
theorem open_nm {fuel : Nat} {v0 v1 : Value} {x : DataW H × List MemPlace} (f0 : DataW.trod enc Tryz.prog w base spare held fuel 34 [v0, v1] = some x) : ∃ a b, v0 = .int .i64 a ∧ v1 = .int .i64 b ∧ (Lit.int .i64 a).wf = true ∧ (Lit.int .i64 b).wf = true := by
  obtain ⟨xs', n', _, _, hl', hxl', hf'⟩ := DataW.trod_struct Tryz.underlying34 f0
  have g0 : DataW.trod enc Tryz.prog w base spare held n' 3 (([v0, v1].drop 0).take (Tryz.prog.cellsOf 3)) = xs'[0]? := hf' 0 _ rfl
  have g1 : DataW.trod enc Tryz.prog w base spare held n' 3 (([v0, v1].drop 1).take (Tryz.prog.cellsOf 3)) = xs'[1]? := hf' 1 _ rfl
  simp at hxl'
  obtain ⟨z0, r0⟩ := some_of (xs := xs') (i := 0) (by omega)
  obtain ⟨z1, r1⟩ := some_of (xs := xs') (i := 1) (by omega)
  rw [r0] at g0
  rw [r1] at g1
  simp only [cellsI, List.drop_succ_cons, List.drop_zero, List.take_succ_cons, List.take_zero] at g0 g1
  obtain ⟨a0, q0, _, u0⟩ := DataW.trod_int Tryz.underlying3 g0
  obtain ⟨a1, q1, _, u1⟩ := DataW.trod_int Tryz.underlying3 g1
  exact ⟨a0, a1, (List.cons.inj q0).1, (List.cons.inj q1).1, u0, u1⟩
theorem open_cl {fuel : Nat} {cs : List Value} {x : DataW H × List MemPlace} (h : DataW.trod enc Tryz.prog w base spare held fuel 37 cs = some x) : ∃ R : Cl, cs = clrow R ∧ R.ok := by
  obtain ⟨xs, n, _, _, hl, hxl, hf⟩ := DataW.trod_struct Tryz.underlying37 h
  rw [cellsCl] at hl
  obtain ⟨v0, v1, v2, v3, v4, v5, rfl⟩ := len6 hl
  have f0 : DataW.trod enc Tryz.prog w base spare held n 3 (([v0, v1, v2, v3, v4, v5].drop 0).take (Tryz.prog.cellsOf 3)) = xs[0]? := hf 0 _ rfl
  have f1 : DataW.trod enc Tryz.prog w base spare held n 34 (([v0, v1, v2, v3, v4, v5].drop 1).take (Tryz.prog.cellsOf 34)) = xs[1]? := hf 1 _ rfl
  have f2 : DataW.trod enc Tryz.prog w base spare held n 3 (([v0, v1, v2, v3, v4, v5].drop 3).take (Tryz.prog.cellsOf 3)) = xs[2]? := hf 2 _ rfl
  have f3 : DataW.trod enc Tryz.prog w base spare held n 3 (([v0, v1, v2, v3, v4, v5].drop 4).take (Tryz.prog.cellsOf 3)) = xs[3]? := hf 3 _ rfl
  have f4 : DataW.trod enc Tryz.prog w base spare held n 35 (([v0, v1, v2, v3, v4, v5].drop 5).take (Tryz.prog.cellsOf 35)) = xs[4]? := hf 4 _ rfl
  simp at hxl
  obtain ⟨y0, e0⟩ := some_of (xs := xs) (i := 0) (by omega)
  obtain ⟨y1, e1⟩ := some_of (xs := xs) (i := 1) (by omega)
  obtain ⟨y2, e2⟩ := some_of (xs := xs) (i := 2) (by omega)
  obtain ⟨y3, e3⟩ := some_of (xs := xs) (i := 3) (by omega)
  obtain ⟨y4, e4⟩ := some_of (xs := xs) (i := 4) (by omega)
  rw [e0] at f0
  rw [e1] at f1
  rw [e2] at f2
  rw [e3] at f3
  rw [e4] at f4
  simp only [cellsI, cellsMode, cellsNm, List.drop_succ_cons, List.drop_zero, List.take_succ_cons, List.take_zero] at f0 f1 f2 f3 f4
  obtain ⟨a0, q0, _, u0⟩ := DataW.trod_int Tryz.underlying3 f0
  obtain ⟨a2, q2, _, u2⟩ := DataW.trod_int Tryz.underlying3 f2
  obtain ⟨a3, q3, _, u3⟩ := DataW.trod_int Tryz.underlying3 f3
  obtain ⟨a4, q4, _, u4⟩ := DataW.trod_int Tryz.underlying35 f4
  obtain ⟨b0, b1, rfl, rfl, w0, w1⟩ := open_nm f1
  obtain rfl := (List.cons.inj q0).1
  obtain rfl := (List.cons.inj q2).1
  obtain rfl := (List.cons.inj q3).1
  obtain rfl := (List.cons.inj q4).1
  exact ⟨⟨a0, b0, b1, a2, a3, a4⟩, rfl, fit_wf w0, fit_wf w1, fit_wf u2, fit_wf u3⟩
theorem open_cls {fuel : Nat} {v : Value} {x : DataW H × List MemPlace} (h : DataW.trod enc Tryz.prog w base spare held fuel 24 [v] = some x) : ∃ l, Rd 6 clrow w v l ∧ ∀ R ∈ l, Cl.ok R := by
  rcases open_slice Tryz.underlying24 h with ⟨hcs, _⟩ | ⟨a, len, cap, m, n, D, Pl, hcs, _, hl, hm, hmm, _, hi⟩
  · simp only [List.cons.injEq, and_true] at hcs
    subst hcs
    exact ⟨[], Rd.nil w, fun R hR => by simp at hR⟩
  · simp only [List.cons.injEq, and_true] at hcs
    subst hcs
    have hlm : len ≤ m := by rw [hmm]; split <;> omega
    have each : ∀ i, i < len → ∃ R : Cl, R.ok ∧ ∀ j u, (clrow R)[j]? = some u → w.cell? (a.add (i * 6 + j)) = some u := by
      intro i hil
      obtain ⟨cs', hc, ht⟩ := hi i (by omega)
      rw [cellsCl] at hc
      obtain ⟨R, rfl, hF⟩ := open_cl ht
      obtain ⟨_, hcl, hat⟩ := World.cells?_some hc
      have key : ∀ j, j < 6 → w.cell? (a.add (i * 6 + j)) = (clrow R)[j]? := fun j hj => by rw [← Go.Deep.add_add]; exact hat j hj
      refine ⟨R, hF, fun j u hj => ?_⟩
      have hj6 : j < 6 := by have := (List.getElem?_eq_some_iff.1 hj).1; simpa [clrow] using this
      rw [key j hj6]; exact hj
    obtain ⟨l, hll, hq⟩ := list_of each
    refine ⟨l, ?_, fun R hR => by obtain ⟨i, hi, rfl⟩ := List.getElem_of_mem hR; exact (hq i (by omega)).1⟩
    subst hll
    rcases Nat.eq_zero_or_pos l.length with h0 | h0
    · obtain rfl := List.length_eq_zero_iff.1 h0
      exact ⟨some a, cap, rfl, .inl ⟨rfl, fun e => by cases e⟩⟩
    · have hu := (hq 0 h0).2 0 _ rfl
      obtain ⟨b, o, spot⟩ := a
      have hs : spot = none := by simpa [Addr.add] using World.cell?_spot hu
      subst hs
      refine ⟨some ⟨b, o, none⟩, cap, rfl, .inr ⟨b, o, rfl, ⟨?_, fun i hi c u hu => ?_⟩⟩⟩
      · rw [Addr.add_lit] at hu
        exact World.block_lt_of_cell? _ _ hu
      · have := (hq i hi).2 c u hu
        rw [Addr.add_lit, ← Nat.add_assoc] at this
        exact this
end
end Go.Proofs.YtpffldfpabglbaaGreatDoor
end

/- The table laws: Same of what is held; lives; call. -/
section
namespace Go.Proofs.YtpffldfpabglbaaGreatDoor
open Go.RowKit Go.Shelf
set_option linter.unusedVariables false      -- a contract need not use every name

set_option maxRecDepth 100000 in
set_option maxHeartbeats 2000000 in
theorem sameL_rows (b o c b' o' c' : Nat) (l : List Hl) (w : World) (hm : l.length ≤ 100000) (h : RdC 4 hlrow w b o l) (h' : RdC 4 hlrow w b' o' l) :
    Calls Tryz.prog 15 #[.slice (some ⟨b, o, none⟩) l.length c, .slice (some ⟨b', o', none⟩) l.length c'] w fun e w' => e = .returned (.bool true) ∧ Nw w w' := by
  have H := Lib.hid (And.intro h h')
  clear h h'
  go_enter Tryz.func15, Tryz.ntmps15
  go_wp2
  go_loopw [5] (fun i wr => ∃ k : Nat, k ≤ l.length ∧ i = .int .i64 k ∧ Nw w wr) (fun i _ => l.length - (intOf i).toNat)
  case atStart => exact ⟨0, Nat.zero_le _, rfl, Nw.refl _⟩
  case round =>
    obtain ⟨k, hk, rfl, hG⟩ := hrel
    by_cases hlt : k < l.length
    · have hce := (H.out.1.nw hG).cell k hlt
      have hde := (H.out.2.nw hG).cell k hlt
      have hki : (k : Int) < (l.length : Int) := by omega
      generalize l[k] = s at *
      obtain ⟨s0, s1, s2, s3⟩ := s
      have c0 := hce 0 _ rfl
      have c1 := hce 1 _ rfl
      have c2 := hce 2 _ rfl
      have c3 := hce 3 _ rfl
      simp only [Nat.add_zero] at c0
      have d0 := hde 0 _ rfl
      have d1 := hde 1 _ rfl
      have d2 := hde 2 _ rfl
      have d3 := hde 3 _ rfl
      simp only [Nat.add_zero] at d0
      clear hce hde
      have HG := Lib.hid hG
      clear hG
      go_wp2_with fail
      go_quiet (fail)
      go_wp2
      go_roundw
      case rel => exact ⟨k + 1, by omega, by go_num, HG.out.drewN _⟩
      case measure => simp [intOf]; omega
    · have HG := Lib.hid hG
      clear hG
      go_wp2
      go_ret
      exact ⟨rfl, HG.out⟩
theorem sameL_none (a a' : Option Addr) (c c' : Nat) (w : World) : Calls Tryz.prog 15 #[.slice a 0 c, .slice a' 0 c'] w fun e w' => e = .returned (.bool true) ∧ Nw w w' := by
  go_enter Tryz.func15, Tryz.ntmps15
  go_wp2
  refine wp_loop_rounds 1 ?_
  repeat (rw [rounds_succ]; go_wp2)
  go_ret
  exact ⟨rfl, Nw.refl _⟩
abbrev HlAt (w : World) (v : Value) (l : List Hl) : Prop := Rd 4 hlrow w v l
theorem HlOwn.rd {w : World} {g0 : Nat} {v : Value} {l : List Hl} (h : HlOwn w g0 v l) : HlAt w v l := Own.rd elemHl.len h
theorem sameL_any (v v' : Value) (l : List Hl) (w : World) (hm : l.length ≤ 100000) (h : HlAt w v l) (h' : HlAt w v' l) : Calls Tryz.prog 15 #[v, v'] w fun e w' => e = .returned (.bool true) ∧ Nw w w' := by
  obtain ⟨a, c, rfl, ⟨rfl, _⟩ | ⟨b, o, rfl, hc⟩⟩ := h
  · obtain ⟨a', c', rfl, _⟩ := h'
    exact sameL_none a a' c c' w
  · obtain ⟨a', c', rfl, ⟨rfl, _⟩ | ⟨b', o', rfl, hc'⟩⟩ := h'
    · exact sameL_none _ a' c c' w
    · exact sameL_rows b o c b' o' c' l w hm hc hc'
/-! ### lives -/
theorem kit_DB (w : World) : Calls Tryz.prog 42 #[] w fun e w' => e = .returned (.agg #[.int .i64 (-1), .int .i64 (-1)]) ∧ Nw w w' := by
  go_enter Tryz.func42, Tryz.ntmps42
  go_wp2
  exact bodyPost_ret (v := .agg #[.int .i64 (-1), .int .i64 (-1)]) (by simp [results, Tryz.results42, go_sem, *]) rfl ⟨rfl, (Nw.refl w).alloc _⟩
theorem caps_law (w : World) : Calls Tryz.prog 40 #[] w fun e w' => e = .returned (.agg #[.int .i64 3, .int .i64 4, .int .i64 8, .int .i64 1]) ∧ Nw w w' := by
  go_enter Tryz.func40, Tryz.ntmps40
  go_wp2
  exact bodyPost_ret (v := .agg #[.int .i64 3, .int .i64 4, .int .i64 8, .int .i64 1]) (by simp [results, Tryz.results40, go_sem, *]) rfl ⟨rfl, (Nw.refl w).alloc _⟩
abbrev lv0 : List (List Hq) := List.replicate 3 []
abbrev lvL : List Bool := List.replicate 8 false
theorem liveT_a1 : askTR 4 lv0 lvL 3 (-1) 1 3 = (0, true, 0) := by kernel_rfl
theorem liveT_a2 : askTR 4 (askTS 4 lv0 lvL 3 (-1) 1 3).1 (askTS 4 lv0 lvL 3 (-1) 1 3).2 (-1) (-1) 1 1 = (1, true, 0) := by kernel_rfl
theorem liveT_h : hdsT (snapT (askTS 4 (askTS 4 lv0 lvL 3 (-1) 1 3).1 (askTS 4 lv0 lvL 3 (-1) 1 3).2 (-1) (-1) 1 1).1) 1 = [⟨1, -1, -1, 1⟩, ⟨1, 3, -1, 3⟩] := by kernel_rfl
theorem live_row (w : World) : HlAt (w.alloc (.cells #[.int .i64 1, .int .i64 (-1), .int .i64 (-1), .int .i64 1, .int .i64 1, .int .i64 3, .int .i64 (-1), .int .i64 3] 44)) (.slice (some ⟨w.heap.size, 0, none⟩) 2 2) [⟨1, -1, -1, 1⟩, ⟨1, 3, -1, 3⟩] := by
  have h := allocAt w (.cells #[.int .i64 1, .int .i64 (-1), .int .i64 (-1), .int .i64 1, .int .i64 1, .int .i64 3, .int .i64 (-1), .int .i64 3] 44)
  exact rd_block (l := ([⟨1, -1, -1, 1⟩, ⟨1, 3, -1, 3⟩] : List Hl)) elemHl.len h 2
/-- A table of the call's own: none of its blocks lies from a to b. -/
structure TaE (w : World) (o S n N k : Nat) (C : Cps) (hss : List (List Hq)) (L : List Bool) (a b : Nat) (W : World) : Prop where
  tab : ∃ J, Tab W o S n N k C hss L J ∧ (∀ j, J j → w.heap.size ≤ j) ∧ ∀ j, a ≤ j → j < b → ¬ J j
  nw : Nw w W
  lt : b ≤ W.heap.size
/-- What lies from a to b stays. -/
def KpA (a b : Nat) (W W' : World) : Prop := ∀ j, a ≤ j → j < b → W'.heap[j]? = W.heap[j]?
theorem KpA.refl (a b : Nat) (W : World) : KpA a b W W := fun _ _ _ => rfl
theorem KpA.trans {a b : Nat} {W W1 W2 : World} (h : KpA a b W W1) (k : KpA a b W1 W2) : KpA a b W W2 := fun j h1 h2 => (k j h1 h2).trans (h j h1 h2)
theorem KpA.nw {a b : Nat} {W W' : World} (g : Nw W W') (h : b ≤ W.heap.size) : KpA a b W W' := fun j _ h2 => g.block j (by omega)
section
variable {w W W' : World} {o S n N k : Nat} {C : Cps} {hss hss' : List (List Hq)} {L L' : List Bool} {a b : Nat}
theorem TaE.step (h : TaE w o S n N k C hss L a b W) (g : Nw W W') : TaE w o S n N k C hss L a b W' := by
  obtain ⟨J, h1, h2, h3⟩ := h.tab
  exact ⟨⟨J, h1.nw g, h2, h3⟩, h.nw.trans g, Nat.le_trans h.lt g.sz⟩
theorem TaE.ok (h : TaE w o S n N k C hss L a b W) : TbOk S n N k hss L := by
  obtain ⟨J, h1, h2, h3⟩ := h.tab
  exact h1.ok
/-- From here on, what was made since W stays. -/
theorem TaE.mark (h : TaE w o S n N k C hss L a b W) (g : Nw W W') : TaE w o S n N k C hss L W.heap.size W'.heap.size W' := by
  obtain ⟨J, h1, h2, h3⟩ := h.tab
  exact ⟨⟨J, h1.nw g, h2, fun j h4 _ h5 => by have := h1.lt j h5; omega⟩, h.nw.trans g, Nat.le_refl _⟩
theorem tae_to {J : Nat → Prop} {k' : Nat} (hw : Nw w W) (h2 : ∀ j, J j → w.heap.size ≤ j) (h3 : ∀ j, a ≤ j → j < b → ¬ J j) (hl : b ≤ W.heap.size) (d : TabTo W o S n N k' C hss' L' J W') : TaE w o S n N k' C hss' L' a b W' ∧ KpA a b W W' := by
  obtain ⟨J', k1, k2, k3⟩ := d
  have hws := hw.sz
  exact ⟨⟨⟨J', k1, fun j e => (k2 j e).elim (h2 j) (fun q => by omega), fun j h4 h5 e => (k2 j e).elim (h3 j h4 h5) (fun q => by omega)⟩, nw_tch hw k3 h2, Nat.le_trans hl k3.size⟩, fun j h4 h5 => k3.block j (by omega) (h3 j h4 h5)⟩
theorem ta_ask (h : TaE w o S n N k C hss L a b W) (hk : k ≤ 800) (hn : n ≤ 64) (hS : S ≤ 16) (t r txn m i : Int) (g : Bool) (E : Int) (hR : askTR n hss L t r txn m = (i, g, E)) :
    Calls Tryz.prog 34 #[.pointer (some ⟨o, 0, none⟩), .agg #[.int .i64 t, .int .i64 r], .int .i64 txn, .int .i64 m] W fun e W' => e = .returned (.tuple #[.int .i64 i, .bool g, .int .i64 E]) ∧ TaE w o S n N (k + 1) C (askTS n hss L t r txn m).1 (askTS n hss L t r txn m).2 a b W' ∧ KpA a b W W' := by
  obtain ⟨J, h1, h2, h3⟩ := h.tab
  refine (ask_t h1 hk hn hS t r txn m).mono ?_
  rintro e W' ⟨e1, d⟩
  rw [hR] at e1
  exact ⟨e1, tae_to h.nw h2 h3 h.lt d⟩
theorem ta_holds (h : TaE w o S n N k C hss L a b W) (hS : S ≤ 16) (hn : n ≤ 64) (txn : Int) : Calls Tryz.prog 16 #[.pointer (some ⟨o, 0, none⟩), .int .i64 txn] W (HlPost W (hdsT (snapT hss) txn)) := by
  obtain ⟨J, h1, _⟩ := h.tab
  exact holds_t h1 hS hn txn
end
theorem ta_new (w W : World) (g : Nw w W) (S n N : Nat) (p : Int) (h : CapsOk ⟨S, n, N, p⟩) : Calls Tryz.prog 9 #[.agg #[.int .i64 S, .int .i64 n, .int .i64 N, .int .i64 p]] W fun e W' => ∃ o, e = .returned (.tuple #[ptN o, .int .i64 0]) ∧ TaE w o S n N 0 ⟨S, n, N, p⟩ (List.replicate S []) (List.replicate N false) 0 0 W' := by
  refine (newT_d S n N p h W).mono ?_
  rintro e W' ⟨o, J, e1, h1, g2, h2⟩
  exact ⟨o, e1, ⟨⟨J, h1, fun j e => Nat.le_trans g.sz (h2 j e), fun j _ q => by omega⟩, g.trans g2, Nat.zero_le _⟩⟩
set_option maxRecDepth 20000 in
set_option maxHeartbeats 4000000 in
theorem lives_t (W : World) : Calls Tryz.prog 8 #[] W fun e w' => e = .returned (.bool true) ∧ Nw W w' := by
  have HW := Lib.hid (Nw.refl W)
  go_enter Tryz.func8, Tryz.ntmps8
  go_wp2_with fail
  refine (caps_law W).mono ?_
  rintro e w1 ⟨rfl, g1⟩
  have HN := Lib.hid (ta_new W w1 g1 3 4 8 1 (by decide))
  clear g1
  go_wp2_with fail
  refine HN.out.mono ?_
  rintro e w2 ⟨o, rfl, hT⟩
  have H2 := Lib.hid hT
  clear hT HN
  go_wp2_with fail
  refine (kit_T 3 w2).mono ?_
  rintro e w3 ⟨rfl, g3⟩
  have HA := Lib.hid (ta_ask (H2.out.step g3) (by omega) (by omega) (by omega) 3 (-1) 1 3 _ _ _ liveT_a1)
  clear g3 H2
  go_wp2_with fail
  refine HA.out.mono ?_
  rintro e w4 ⟨rfl, hT, _⟩
  have H4 := Lib.hid hT
  clear hT HA
  go_wp2_with fail
  refine (kit_DB w4).mono ?_
  rintro e w5 ⟨rfl, g5⟩
  have HA := Lib.hid (ta_ask (H4.out.step g5) (by omega) (by omega) (by omega) (-1) (-1) 1 1 _ _ _ liveT_a2)
  clear g5 H4
  go_wp2_with fail
  refine HA.out.mono ?_
  rintro e w6 ⟨rfl, hT, _⟩
  have hh := ta_holds hT (by omega) (by omega) 1
  rw [liveT_h] at hh
  have HH := Lib.hid hh
  have H6 := Lib.hid hT.nw
  clear hT HA hh
  go_wp2_with fail
  refine HH.out.mono ?_
  rintro e w7 ⟨v, rfl, hl, g7⟩
  obtain ⟨v0, v1, v2, hv⟩ : ∃ a b c, v = .slice a b c := by
    obtain ⟨a, c, e, _⟩ := HlOwn.rd hl
    exact ⟨_, _, _, e⟩
  subst hv
  have H7 := Lib.hid (And.intro (HlOwn.rd hl) (H6.out.trans g7))
  clear hl g7 HH H6
  go_wp2_with fail
  refine (kit_DB w7).mono ?_
  rintro e w8 ⟨rfl, g8⟩
  have H8 := Lib.hid (And.intro (H7.out.1.nw g8) (H7.out.2.trans g8))
  clear g8 H7
  go_wp2_with fail
  refine (kit_T 3 w8).mono ?_
  rintro e w9 ⟨rfl, g9⟩
  have gA : Nw w9 (w9.alloc (.cells #[.int .i64 1, .int .i64 (-1), .int .i64 (-1), .int .i64 1, .int .i64 1, .int .i64 3, .int .i64 (-1), .int .i64 3] 44)) := (Nw.refl w9).alloc _
  have HS := Lib.hid (sameL_any (.slice v0 v1 v2) (.slice (some ⟨w9.heap.size, 0, none⟩) 2 2) _ _ (by decide) (H8.out.1.nw (g9.trans gA)) (live_row w9))
  have H9 := Lib.hid (H8.out.2.trans (g9.trans gA))
  clear g9 gA H8
  go_wp2_with fail
  refine HS.out.mono ?_
  rintro e w10 ⟨rfl, g10⟩
  have HE := Lib.hid (H9.out.trans g10)
  clear g10 HS H9
  go_wp2
  go_ret
  exact ⟨rfl, HE.out⟩
end Go.Proofs.YtpffldfpabglbaaGreatDoor
end

/- The table laws: a call, whatever it is; what rows keep. -/
section
namespace Go.Proofs.YtpffldfpabglbaaGreatDoor
open Go.RowKit Go.Shelf
set_option linter.unusedVariables false      -- a contract need not use every name

end Go.Proofs.YtpffldfpabglbaaGreatDoor
end

/- TableApart: what is told of a name. -/
section
namespace Go.Proofs.YtpffldfpabglbaaGreatDoor.tableApart
open Go.RowKit Go.Shelf
set_option linter.unusedVariables false      -- a contract need not use every name

theorem wrapS {k n : Nat} (h : k < n) (hn : n ≤ 9223372036854775807) : wrap64 ((k : Int) + 1) = (k : Int) + 1 := by unfold wrap64; omega
theorem ltS {k n : Nat} (h : k < n) : (k : Int) < (n : Int) := Int.ofNat_lt.2 h
def bsL (l : List UInt8) : ByteArray := ⟨l.toArray⟩
theorem bs_size (l : List UInt8) : (bsL l).size = l.length := by unfold bsL; simp [ByteArray.size]
theorem bs_app (l : List UInt8) (a b c d : UInt8) : bsL l ++ (⟨#[a, b, c, d]⟩ : ByteArray) = bsL (l ++ [a, b, c, d]) := by
  unfold bsL
  apply ByteArray.ext
  rw [ByteArray.data_append]
  simp
theorem conv4 (w : World) (a b c d : UInt8) : (convert 124 9 (.slice (some ⟨w.heap.size, 0, none⟩) 4 4)).run Tryz.prog (w.alloc (.cells #[.int .u8 (a.toNat : Int), .int .u8 (b.toNat : Int), .int .u8 (c.toNat : Int), .int .u8 (d.toNat : Int)] 5)) = .ok (.string ⟨#[a, b, c, d]⟩) (w.alloc (.cells #[.int .u8 (a.toNat : Int), .int .u8 (b.toNat : Int), .int .u8 (c.toNat : Int), .int .u8 (d.toNat : Int)] 5)) :=
  run_convert_bytes_back (w.alloc (.cells #[.int .u8 (a.toNat : Int), .int .u8 (b.toNat : Int), .int .u8 (c.toNat : Int), .int .u8 (d.toNat : Int)] 5)) 124 9 5 ⟨w.heap.size, 0, none⟩ 4 [a, b, c, d] Tryz.underlying124 Tryz.underlying5 Tryz.underlying9 (fun j hj => by
    have : j = 0 ∨ j = 1 ∨ j = 2 ∨ j = 3 := by simp at hj; omega
    rcases this with rfl | rfl | rfl | rfl <;> simp [Addr.add, go_sem])
/-- What is known of a head. -/
theorem rq_row {y1 : World} {xa : Option Addr} {q : List Rq} {ql xc : Nat} (h : RqAt y1 (.slice xa ql xc) q) (e : q.length = ql) {j : Nat} (hj : j < ql) :
    ∃ (bb oo : Nat) (i x m u s : Int), xa = some ⟨bb, oo, none⟩ ∧ (∀ z, Nw y1 z → z.cell? ⟨bb, oo + j * 5, none⟩ = some (.int .i64 i) ∧ z.cell? ⟨bb, oo + j * 5 + 1, none⟩ = some (.int .i64 x) ∧ z.cell? ⟨bb, oo + j * 5 + 2, none⟩ = some (.int .i64 m) ∧ z.cell? ⟨bb, oo + j * 5 + 3, none⟩ = some (.int .i64 u) ∧ z.cell? ⟨bb, oo + j * 5 + 4, none⟩ = some (.int .i64 s)) ∧ byQ (q.take (j + 1)) = byQ (q.take j) ++ [b8 x, b8 m, b8 u, b8 s] := by
  obtain ⟨a6, c6, e6, ⟨q6, _⟩ | ⟨b', o', e7, hc6⟩⟩ := h
  · rw [← e, q6] at hj; simp at hj
  subst e7
  injection e6 with e6 _ _
  have hj2 : j < q.length := by rw [e]; exact hj
  exact ⟨b', o', _, _, _, _, _, e6, fun z g => ⟨(hc6.nw g).cell j hj2 0 _ rfl, (hc6.nw g).cell j hj2 1 _ rfl, (hc6.nw g).cell j hj2 2 _ rfl, (hc6.nw g).cell j hj2 3 _ rfl, (hc6.nw g).cell j hj2 4 _ rfl⟩, byQ_nx hj2⟩
theorem head_row {y1 : World} {lm : List Hm} {s : List Hq} {a0 : Option Addr} {c0 : Nat} (hr : Rd 4 hmrow y1 (.slice a0 lm.length c0) lm) (hq : ∀ x ∈ lm, RqAt y1 (hmV x) x.h.q ∧ x.h.q.length ≤ 1000) (he : lm.map Hm.h = s) (nm : Int × Int) {i : Nat} (hi : i < lm.length) :
    ∃ (bb oo : Nat) (xt xr xW : Int) (xa : Option Addr) (q : List Rq) (ql xc : Nat), a0 = some ⟨bb, oo, none⟩ ∧ q.length = ql ∧ ql ≤ 1000 ∧ byH nm (s.take (i + 1)) = byH nm (s.take i) ++ (if (xt, xr) = nm then byQ q else []) ∧
      (∀ z, Nw y1 z → z.cell? ⟨bb, oo + i * 4, none⟩ = some (.int .i64 xt)) ∧ (∀ z, Nw y1 z → z.cell? ⟨bb, oo + i * 4 + 1, none⟩ = some (.int .i64 xr)) ∧ (∀ z, Nw y1 z → z.cell? ⟨bb, oo + i * 4 + 2, none⟩ = some (.slice xa ql xc)) ∧ RqAt y1 (.slice xa ql xc) q := by
  obtain ⟨a', c', e, ⟨q, _⟩ | ⟨bb, oo, e2, hc⟩⟩ := hr
  · rw [q] at hi; simp at hi
  subst e2
  cases e
  subst he
  have hx := hq _ (List.getElem_mem hi)
  have hn := byH_nx (nm := nm) (s := lm.map Hm.h) (i := i) (by rw [List.length_map]; exact hi)
  rw [List.getElem_map] at hn
  exact ⟨bb, oo, _, _, lm[i].h.W, _, _, _, _, rfl, rfl, hx.2, hn, fun z g => (hc.nw g).cell i hi 0 _ rfl, fun z g => (hc.nw g).cell i hi 1 _ rfl, fun z g => (hc.nw g).cell i hi 2 _ rfl, hx.1⟩
theorem byH_le {s : List Hq} {nm : Int × Int} (h : (s.map fun h => h.q.length).sum ≤ 128) (i : Nat) : (byH nm (s.take i)).length ≤ 512 := by
  have h1 := byH_len nm (s.take i)
  have h2 := sum_take s i
  omega
set_option maxRecDepth 100000 in
set_option maxHeartbeats 8000000 in
theorem told_t {W : World} {o S n N k : Nat} {C : Cps} {hss : List (List Hq)} {L : List Bool} {J : Nat → Prop} (h : Tab W o S n N k C hss L J) (hS : S ≤ 16) (hn : n ≤ 64) (hN : N ≤ 128) (t r : Int) :
    Calls Tryz.prog 38 #[.pointer (some ⟨o, 0, none⟩), .agg #[.int .i64 t, .int .i64 r]] W fun e W' => e = .returned (.string (bsL (byH (t, r) (snapT hss)))) ∧ Nw W W' := by
  have hal := allocAt W (.cells #[.int .i64 t, .int .i64 r] 34)
  obtain ⟨z, hz⟩ : ∃ z, W.alloc (.cells #[.int .i64 t, .int .i64 r] 34) = z := ⟨_, rfl⟩
  have g1 : Nw W z := by rw [← hz]; exact (Nw.refl W).alloc _
  rw [hz] at hal
  have HZ := Lib.hid hz
  have HX := Lib.hid (And.intro hal g1)
  have HSn := Lib.hid (snapshot_t (h.nw g1) hS hn)
  have hok := h.ok
  have HSum := Lib.hid (show ((snapT hss).map fun h => h.q.length).sum ≤ 128 by rw [hok.sumq]; exact Nat.le_trans hok.liv_le hN)
  have hsl := hok.snap_len
  clear hz hal g1 h hok
  go_enter Tryz.func38, Tryz.ntmps38
  go_wp2_with fail
  rw [HZ.out]
  refine HSn.out.mono ?_
  rintro e y1 ⟨v0, rfl, hh0, g1⟩
  obtain ⟨lm, ⟨⟨a0, c0, rfl, hr0⟩, hq0⟩, he0⟩ := hh0.rd
  have hlb : lm.length ≤ 128 := by rw [← he0, List.length_map] at hsl; omega
  have HRn := Lib.hid (fun i (hi : i < lm.length) => head_row ⟨a0, c0, rfl, hr0⟩ hq0 he0 (t, r) hi)
  have HEnd := Lib.hid (show (snapT hss).take lm.length = snapT hss from by rw [← he0]; exact List.take_of_length_le (by rw [List.length_map]; exact Nat.le_refl _))
  have HN0 := Lib.hid (fun y (g : Nw y1 y) => hcell (j := 0) ((g1.trans g).at' HX.out.1))
  have HN1 := Lib.hid (fun y (g : Nw y1 y) => hcell (j := 1) ((g1.trans g).at' HX.out.1))
  have HG := Lib.hid (HX.out.2.trans g1)
  clear hh0 g1 hr0 hq0 he0 HSn hsl
  go_wp2_with fail
  go_loopw [6, 7] (fun sv iv y => ∃ i : Nat, sv = .string (bsL (byH (t, r) ((snapT hss).take i))) ∧ iv = .int .i64 i ∧ i ≤ lm.length ∧ Hid (Nw y1 y)) (fun _ iv _ => lm.length - (intOf iv).toNat)
  case atStart => exact ⟨0, rfl, rfl, Nat.zero_le _, Nw.refl _⟩
  case round =>
    obtain ⟨i, rfl, rfl, hi, HI⟩ := hrel
    by_cases hil : i < lm.length
    · obtain ⟨bb, oo, xt, xr, xW, xa, q, ql, xc, e1, hql, hq1, hnx, h0, h1, h2, hrq⟩ := HRn.out i hil
      subst e1
      have HNx := Lib.hid hnx
      have HRq := Lib.hid (And.intro hrq (And.intro hql hq1))
      have HCl := Lib.hid (And.intro h0 (And.intro h1 h2))
      have HLe := Lib.hid (byH_le (nm := (t, r)) HSum.out i)
      obtain ⟨A0, hA0⟩ : ∃ A0, byH (t, r) ((snapT hss).take i) = A0 := ⟨_, rfl⟩
      rw [hA0] at HNx HLe ⊢
      have hii := ltS hil
      have hwi := wrapS hil (Nat.le_trans hlb (by decide))
      clear hnx hrq hql h0 h1 h2 hA0
      by_cases hm : xt = t ∧ xr = r
      · obtain ⟨rfl, rfl⟩ := hm
        rw [if_pos rfl] at HNx
        go_wp2_with fail
        go_loopw [6, 8] (fun sv jv y => ∃ j : Nat, sv = .string (bsL (A0 ++ byQ (q.take j))) ∧ jv = .int .i64 j ∧ j ≤ ql ∧ Hid (Nw y1 y)) (fun _ jv _ => ql - (intOf jv).toNat)
        case atStart => exact ⟨0, by rw [List.take_zero]; show _ = Value.string (bsL (A0 ++ [])); rw [List.append_nil], rfl, Nat.zero_le _, HI⟩
        case round =>
          clear HI
          obtain ⟨j, rfl, rfl, hj, HG2⟩ := hrel
          have hne : Nonempty (Wd (fun z => Nw wr z)) := ⟨⟨_, Nw.refl _⟩⟩
          have F0 := fun (d : Wd (fun z => Nw wr z)) => HCl.out.1 _ (HG2.out.trans d.h)
          have F1 := fun (d : Wd (fun z => Nw wr z)) => HCl.out.2.1 _ (HG2.out.trans d.h)
          have F2 := fun (d : Wd (fun z => Nw wr z)) => HCl.out.2.2 _ (HG2.out.trans d.h)
          have M0 := fun (d : Wd (fun z => Nw wr z)) => HN0.out _ (HG2.out.trans d.h)
          have M1 := fun (d : Wd (fun z => Nw wr z)) => HN1.out _ (HG2.out.trans d.h)
          by_cases hjl : j < ql
          · obtain ⟨b', o', i0, x, m, u, s, e1, hcr, hbq⟩ := rq_row HRq.out.1 HRq.out.2.1 hjl
            subst e1
            have HCr := Lib.hid hcr
            have hji := ltS hjl
            have hwj := wrapS hjl (Nat.le_trans HRq.out.2.2 (by decide))
            have HBq := Lib.hid hbq
            have hsz : (bsL (A0 ++ byQ (q.take j))).size ≤ 100000 := by
              rw [bs_size, List.length_append, byQ_len, List.length_take]
              have h1 := HLe.out
              have h2 := HRq.out.2.2
              have h3 := HRq.out.2.1
              omega
            obtain ⟨B, hB⟩ : ∃ B, bsL (A0 ++ byQ (q.take j)) = B := ⟨_, rfl⟩
            rw [hB] at hsz ⊢
            have HB := Lib.hid hB
            have g1 : ¬ 9223372036854775807 < B.size + 4 := by omega
            have kc := fun w => conv4 w (b8 x) (b8 m) (b8 u) (b8 s)
            simp only [b8_nat] at kc
            clear hcr hbq hB
            go_wp2_with fail
            refine region_in' (fun z => Nw wr z) (by kernel_rfl) (by kernel_rfl) (by kernel_rfl) (Nw.refl wr).dr ?_
            repeat (first | go_big_quiet_step (fail) | quiet_step (fail))
            refine wpQuiet_nil ?_
            intro d
            have HG3 := Lib.hid (HG2.out.trans d.h)
            clear F0 F1 F2 M0 M1 hne
            revert HG3
            generalize d.w = y3
            intro HG3
            have f2 := HCl.out.2.2 _ HG3.out
            obtain ⟨c0, c1, c2, c3, c4⟩ := HCr.out _ HG3.out
            go_upto_region 10 with fail
            obtain ⟨y4, hy4⟩ : ∃ y4, y3.alloc (.cells #[.int .i64 i0, .int .i64 x, .int .i64 m, .int .i64 u, .int .i64 s] 50) = y4 := ⟨_, rfl⟩
            have hal := allocAt y3 (.cells #[.int .i64 i0, .int .i64 x, .int .i64 m, .int .i64 u, .int .i64 s] 50)
            have g4 : Nw y3 y4 := by rw [← hy4]; exact (Nw.refl y3).alloc _
            rw [hy4] at hal ⊢
            have d1 := hcell (j := 1) hal
            have d2 := hcell (j := 2) hal
            have d3 := hcell (j := 3) hal
            have d4 := hcell (j := 4) hal
            have dl := hlt hal
            generalize y3.heap.size = q0 at *
            clear f2 c0 c1 c2 c3 c4 hal hy4
            go_wp2_with fail
            go_roundw
            case rel =>
              refine ⟨j + 1, ?_, congrArg (Value.int .i64) (by first | exact nxU j | exact hwj.trans (nxU j)), hjl, HG3.out.trans (g4.trans ((Nw.refl y4).alloc _))⟩
              rw [← HB.out, bs_app, List.append_assoc, ← HBq.out]
            case measure => first | exact downU ql j hjl | (rw [hwj]; exact downU ql j hjl)
          · obtain rfl : j = ql := Nat.le_antisymm hj (Nat.le_of_not_lt hjl)
            go_wp2_with fail
            refine region_in' (fun z => Nw wr z) (by kernel_rfl) (by kernel_rfl) (by kernel_rfl) (Nw.refl wr).dr ?_
            repeat (first | go_big_quiet_step (fail) | quiet_step (fail))
            refine wpQuiet_nil ?_
            intro d
            have HG3 := Lib.hid (HG2.out.trans d.h)
            clear F0 F1 F2 M0 M1 hne
            revert HG3
            generalize d.w = y3
            intro HG3
            have HNy := Lib.hid (show byH (xt, xr) ((snapT hss).take (i + 1)) = A0 ++ byQ (q.take j) by
              have e : q.take j = q := by rw [← HRq.out.2.1, List.take_length]
              rw [e]
              exact HNx.out)
            rw [← HNy.out]
            clear HCl HRq HG2
            go_wp2_with fail
            go_roundw
            case rel => exact ⟨i + 1, rfl, congrArg (Value.int .i64) (by first | exact nxU i | exact hwi.trans (nxU i)), hil, HG3⟩
            case measure => first | exact downU lm.length i hil | (rw [hwi]; exact downU lm.length i hil)
      · rw [if_neg (fun e => hm ⟨congrArg Prod.fst e, congrArg Prod.snd e⟩), List.append_nil] at HNx
        by_cases hx : xt = t
        · subst hx
          have dr : (xr == r) = false := beq_eq_false_iff_ne.2 (fun e => hm ⟨rfl, e⟩)
          go_wp2_with fail
          go_loopw [6, 8] (fun sv jv y => sv = .string (bsL A0) ∧ jv = .int .i64 0 ∧ Hid (Nw y1 y)) (fun _ jv _ => 0)
          case atStart => exact ⟨rfl, rfl, HI⟩
          case round =>
            clear HI
            obtain ⟨rfl, rfl, HG2⟩ := hrel
            have hne : Nonempty (Wd (fun z => Nw wr z)) := ⟨⟨_, Nw.refl _⟩⟩
            have F0 := fun (d : Wd (fun z => Nw wr z)) => HCl.out.1 _ (HG2.out.trans d.h)
            have F1 := fun (d : Wd (fun z => Nw wr z)) => HCl.out.2.1 _ (HG2.out.trans d.h)
            have F2 := fun (d : Wd (fun z => Nw wr z)) => HCl.out.2.2 _ (HG2.out.trans d.h)
            have M0 := fun (d : Wd (fun z => Nw wr z)) => HN0.out _ (HG2.out.trans d.h)
            have M1 := fun (d : Wd (fun z => Nw wr z)) => HN1.out _ (HG2.out.trans d.h)
            go_wp2_with fail
            refine region_in' (fun z => Nw wr z) (by kernel_rfl) (by kernel_rfl) (by kernel_rfl) (Nw.refl wr).dr ?_
            repeat (first | go_big_quiet_step (fail) | quiet_step (fail))
            refine wpQuiet_nil ?_
            intro d
            have HG3 := Lib.hid (HG2.out.trans d.h)
            clear F0 F1 F2 M0 M1 hne
            revert HG3
            generalize d.w = y3
            intro HG3
            clear HCl HRq HG2
            go_wp2_with fail
            go_roundw
            case rel => exact ⟨i + 1, by rw [HNx.out], congrArg (Value.int .i64) (by first | exact nxU i | exact hwi.trans (nxU i)), hil, HG3⟩
            case measure => first | exact downU lm.length i hil | (rw [hwi]; exact downU lm.length i hil)
        · have dr : (xt == t) = false := beq_eq_false_iff_ne.2 hx
          go_wp2_with fail
          go_loopw [6, 8] (fun sv jv y => sv = .string (bsL A0) ∧ jv = .int .i64 0 ∧ Hid (Nw y1 y)) (fun _ jv _ => 0)
          case atStart => exact ⟨rfl, rfl, HI⟩
          case round =>
            clear HI
            obtain ⟨rfl, rfl, HG2⟩ := hrel
            have hne : Nonempty (Wd (fun z => Nw wr z)) := ⟨⟨_, Nw.refl _⟩⟩
            have F0 := fun (d : Wd (fun z => Nw wr z)) => HCl.out.1 _ (HG2.out.trans d.h)
            have F1 := fun (d : Wd (fun z => Nw wr z)) => HCl.out.2.1 _ (HG2.out.trans d.h)
            have F2 := fun (d : Wd (fun z => Nw wr z)) => HCl.out.2.2 _ (HG2.out.trans d.h)
            have M0 := fun (d : Wd (fun z => Nw wr z)) => HN0.out _ (HG2.out.trans d.h)
            have M1 := fun (d : Wd (fun z => Nw wr z)) => HN1.out _ (HG2.out.trans d.h)
            go_wp2_with fail
            refine region_in' (fun z => Nw wr z) (by kernel_rfl) (by kernel_rfl) (by kernel_rfl) (Nw.refl wr).dr ?_
            repeat (first | go_big_quiet_step (fail) | quiet_step (fail))
            refine wpQuiet_nil ?_
            intro d
            have HG3 := Lib.hid (HG2.out.trans d.h)
            clear F0 F1 F2 M0 M1 hne
            revert HG3
            generalize d.w = y3
            intro HG3
            clear HCl HRq HG2
            go_wp2_with fail
            go_roundw
            case rel => exact ⟨i + 1, by rw [HNx.out], congrArg (Value.int .i64) (by first | exact nxU i | exact hwi.trans (nxU i)), hil, HG3⟩
            case measure => first | exact downU lm.length i hil | (rw [hwi]; exact downU lm.length i hil)
    · obtain rfl : i = lm.length := Nat.le_antisymm hi (Nat.le_of_not_lt hil)
      rw [HEnd.out]
      have HE := Lib.hid (HG.out.trans HI.out)
      clear HG HI
      go_wp2
      go_ret
      exact ⟨rfl, HE.out⟩
end Go.Proofs.YtpffldfpabglbaaGreatDoor.tableApart
end

/- TableApart: two tables of the call's own; the walk. -/
section
namespace Go.Proofs.YtpffldfpabglbaaGreatDoor.tableApart
open Go.RowKit Go.Shelf
set_option linter.unusedVariables false      -- a contract need not use every name

/-- Two tables of the call's own, apart. -/
structure TwoT (w : World) (oA oB S n N kA kB : Nat) (C : Cps) (hA : List (List Hq)) (LA : List Bool) (hB : List (List Hq)) (LB : List Bool) (W : World) : Prop where
  tabs : ∃ JA JB, Tab W oA S n N kA C hA LA JA ∧ Tab W oB S n N kB C hB LB JB ∧ (∀ j, JA j → w.heap.size ≤ j) ∧ (∀ j, JB j → w.heap.size ≤ j) ∧ ∀ j, JA j → ¬ JB j
  nw : Nw w W
section
variable {w W W' : World} {oA oB S n N kA kB : Nat} {C : Cps} {hA hB : List (List Hq)} {LA LB : List Bool}
theorem TwoT.step (h : TwoT w oA oB S n N kA kB C hA LA hB LB W) (g : Nw W W') : TwoT w oA oB S n N kA kB C hA LA hB LB W' := by
  obtain ⟨JA, JB, h1, h2, h3⟩ := h.tabs
  exact ⟨⟨JA, JB, h1.nw g, h2.nw g, h3⟩, h.nw.trans g⟩
theorem TwoT.okA (h : TwoT w oA oB S n N kA kB C hA LA hB LB W) : TbOk S n N kA hA LA := by
  obtain ⟨JA, JB, h1, h2, h3⟩ := h.tabs
  exact h1.ok
theorem TwoT.okB (h : TwoT w oA oB S n N kA kB C hA LA hB LB W) : TbOk S n N kB hB LB := by
  obtain ⟨JA, JB, h1, h2, h3⟩ := h.tabs
  exact h2.ok
theorem TwoT.swap (h : TwoT w oA oB S n N kA kB C hA LA hB LB W) : TwoT w oB oA S n N kB kA C hB LB hA LA W := by
  obtain ⟨JA, JB, h1, h2, h3, h4, h5⟩ := h.tabs
  exact ⟨⟨JB, JA, h2, h1, h4, h3, fun j e q => h5 j q e⟩, h.nw⟩
theorem TwoT.ask {W1 : World} (h : TwoT w oA oB S n N kA kB C hA LA hB LB W) (g : Nw W W1) (hk : kA ≤ 800) (hn : n ≤ 64) (hS : S ≤ 16) (t r txn m : Int) :
    Calls Tryz.prog 34 #[.pointer (some ⟨oA, 0, none⟩), .agg #[.int .i64 t, .int .i64 r], .int .i64 txn, .int .i64 m] W1 fun e W' => (∃ v, e = .returned v) ∧ TwoT w oA oB S n N (kA + 1) kB C (askTS n hA LA t r txn m).1 (askTS n hA LA t r txn m).2 hB LB W' ∧ KpA W.heap.size W1.heap.size W1 W' := by
  obtain ⟨JA, JB, h1, h2, h3, h4, h5⟩ := h.tabs
  refine (ask_t (h1.nw g) hk hn hS t r txn m).mono ?_
  rintro e W' ⟨e1, J', k1, k2, k3⟩
  have hw := h.nw.sz
  have hg := g.sz
  exact ⟨⟨_, e1⟩, ⟨⟨J', JB, k1, (h2.nw g).tch k3 (fun b e q => h5 b q e), fun j e => (k2 j e).elim (h3 j) (fun q => by omega), h4, fun j e q => (k2 j e).elim (fun e => h5 j e q) (fun e => by have := h2.lt j q; omega)⟩, nw_tch (h.nw.trans g) k3 h3⟩, fun j q1 q2 => k3.block j (by omega) (fun e => by have := h1.lt j e; omega)⟩
theorem TwoT.stripe (h : TwoT w oA oB S n N kA kB C hA LA hB LB W) (t r : Int) : Calls Tryz.prog 20 #[.pointer (some ⟨oA, 0, none⟩), .agg #[.int .i64 t, .int .i64 r]] W fun e W' => e = .returned (.int .i64 (ofS t r S)) ∧ Nw W W' := by
  obtain ⟨JA, JB, h1, _⟩ := h.tabs
  exact stripe_t h1 t r
theorem TwoT.told (h : TwoT w oA oB S n N kA kB C hA LA hB LB W) (hS : S ≤ 16) (hn : n ≤ 64) (hN : N ≤ 128) (t r : Int) : Calls Tryz.prog 38 #[.pointer (some ⟨oA, 0, none⟩), .agg #[.int .i64 t, .int .i64 r]] W fun e W' => e = .returned (.string (bsL (byH (t, r) (snapT hA)))) ∧ Nw W W' := by
  obtain ⟨JA, JB, h1, _⟩ := h.tabs
  exact told_t h1 hS hn hN t r
end
theorem two_new (w W : World) (g : Nw w W) {oA S n N : Nat} {p : Int} {JA : Nat → Prop} (hA : Tab W oA S n N 0 ⟨S, n, N, p⟩ (List.replicate S []) (List.replicate N false) JA) (hj : ∀ j, JA j → w.heap.size ≤ j) (h : CapsOk ⟨S, n, N, p⟩) :
    Calls Tryz.prog 9 #[.agg #[.int .i64 S, .int .i64 n, .int .i64 N, .int .i64 p]] W fun e W' => ∃ o, e = .returned (.tuple #[ptN o, .int .i64 0]) ∧ TwoT w oA o S n N 0 0 ⟨S, n, N, p⟩ (List.replicate S []) (List.replicate N false) (List.replicate S []) (List.replicate N false) W' := by
  refine (newT_d S n N p h W).mono ?_
  rintro e W' ⟨o, J, e1, h1, g2, h2⟩
  exact ⟨o, e1, ⟨⟨JA, J, hA.nw g2, h1, hj, fun j e => Nat.le_trans g.sz (h2 j e), fun j e q => by have := hA.lt j e; have := h2 j q; omega⟩, g.trans g2⟩⟩
/-- After some asks. -/
def Sim (w : World) (oA oB i s : Nat) (C : Cps) (W : World) : Prop := ∃ kB hA LA hB LB, kB ≤ i ∧ TwoT w oA oB 16 64 128 i kB C hA LA hB LB W ∧ liv LA ≤ i ∧ liv LB ≤ i ∧ SimB (hsAt hA s) (hsAt hB s)
theorem kS {a b : Nat} (h : a ≤ b) (k : b ≤ 40) : a ≤ 800 := by omega
theorem Sim.on {w W W' : World} {oA oB i s kB : Nat} {C : Cps} {hA hB : List (List Hq)} {LA LB : List Bool} (h : TwoT w oA oB 16 64 128 i kB C hA LA hB LB W) (hi : i < 40) (h1 : liv LA ≤ i) (h2 : liv LB ≤ i) (hk : kB ≤ i) (hs : SimB (hsAt hA s) (hsAt hB s)) {t r x m : Int} (e : ofS t r 16 = (s : Int))
    (h' : TwoT w oA oB 16 64 128 (i + 1) (kB + 1) C (askTS 64 hA LA t r x m).1 (askTS 64 hA LA t r x m).2 (askTS 64 hB LB t r x m).1 (askTS 64 hB LB t r x m).2 W') : Sim w oA oB (i + 1) s C W' :=
  ⟨kB + 1, _, _, _, _, by omega, h', Nat.le_trans (liv_askT _ _ _ _ _ _ _) (by omega), Nat.le_trans (liv_askT _ _ _ _ _ _ _) (by omega), sim_on h.okA h.okB h1 h2 (by omega) (by omega) e hs⟩
theorem Sim.off {w W W' : World} {oA oB i s kB : Nat} {C : Cps} {hA hB : List (List Hq)} {LA LB : List Bool} (h : TwoT w oA oB 16 64 128 i kB C hA LA hB LB W) (h1 : liv LA ≤ i) (h2 : liv LB ≤ i) (hk : kB ≤ i) (hs : SimB (hsAt hA s) (hsAt hB s)) {t r x m : Int} (e : ofS t r 16 ≠ (s : Int))
    (h' : TwoT w oA oB 16 64 128 (i + 1) kB C (askTS 64 hA LA t r x m).1 (askTS 64 hA LA t r x m).2 hB LB W') : Sim w oA oB (i + 1) s C W' :=
  ⟨kB, _, _, _, _, by omega, h', Nat.le_trans (liv_askT _ _ _ _ _ _ _) (by omega), by omega, by rw [sim_off h.okA e]; exact hs⟩
set_option maxRecDepth 100000 in
set_option maxHeartbeats 8000000 in
theorem walk (v : Value) (l : List Cl) (w : World) (hl : Rd 6 clrow w v l) (h0 : l.length ≤ 40) (t r : Int) (hv : lvl t r ≠ -1) :
    Calls Tryz.prog 6 #[v, .agg #[.int .i64 t, .int .i64 r]] w fun e w' => e = .returned (.bool true) ∧ Nw w w' := by
  have HL := Lib.hid hl
  obtain ⟨va, vc, rfl, _⟩ := hl
  have d0 : decide ((40 : Int) < (l.length : Int)) = false := by rw [decide_eq_false_iff_not]; omega
  obtain ⟨s, hs⟩ : ∃ s : Nat, ofS t r 16 = (s : Int) := by
    rw [ofS_yes t r 16 (by decide) (by decide) hv]
    exact Int.eq_ofNat_of_zero_le (Int.emod_nonneg _ (by decide))
  have HS := Lib.hid hs
  have HCk := Lib.hid (fun W => refCheck_ok t r W hv)
  have H0 := Lib.hid h0
  have hal := allocAt w (.cells #[.int .i64 t, .int .i64 r] 34)
  obtain ⟨z, hz⟩ : ∃ z, w.alloc (.cells #[.int .i64 t, .int .i64 r] 34) = z := ⟨_, rfl⟩
  have hN0 : Nw w z := by rw [← hz]; exact (Nw.refl w).alloc _
  rw [hz] at hal
  have HZ := Lib.hid hz
  have HX := Lib.hid (And.intro hal hN0)
  have HN0 := Lib.hid (fun y (g : Nw z y) => hcell (j := 0) (g.at' HX.out.1))
  have HN1 := Lib.hid (fun y (g : Nw z y) => hcell (j := 1) (g.at' HX.out.1))
  clear hz hal hN0 hv hs h0
  go_enter Tryz.func6, Tryz.ntmps6
  go_wp2_with fail
  rw [HZ.out]
  refine (lives_t z).mono ?_
  rintro e w1 ⟨rfl, g1⟩
  have HG1 := Lib.hid g1
  have c0 := HN0.out _ g1
  have c1 := HN1.out _ g1
  clear g1
  go_wp2_with fail
  refine (HCk.out w1).mono ?_
  rintro e w2 ⟨rfl, g2⟩
  have HG2 := Lib.hid (HG1.out.trans g2)
  clear g2 HG1 c0 c1
  go_upto_region 6 with fail
  have hcb := allocAt w2 (.cells #[.int .i64 16, .int .i64 64, .int .i64 128, .int .i64 0] 23)
  obtain ⟨w3, hw3⟩ : ∃ w3, w2.alloc (.cells #[.int .i64 16, .int .i64 64, .int .i64 128, .int .i64 0] 23) = w3 := ⟨_, rfl⟩
  have g3 : Nw w2 w3 := by rw [← hw3]; exact (Nw.refl w2).alloc _
  rw [hw3] at hcb ⊢
  have HW3 := Lib.hid (HG2.out.trans g3)
  have HCb := Lib.hid (fun y (g : Nw w3 y) => g.at' hcb)
  generalize w2.heap.size = q0 at *
  have hb := HCb.out _ (Nw.refl w3)
  have e0 := hcell (j := 0) hb
  have e1 := hcell (j := 1) hb
  have e2 := hcell (j := 2) hb
  have e3 := hcell (j := 3) hb
  have el := hlt hb
  clear hb hw3 g3 HG2 hcb
  go_wp2_with fail
  refine (newT_d 16 64 128 0 (by decide) w3).mono ?_
  rintro e w4 ⟨oA, JA, rfl, hA, g4, hj⟩
  have HA := Lib.hid (And.intro hA (And.intro (fun j q => Nat.le_trans HW3.out.sz (hj j q)) (HW3.out.trans g4)))
  have hb := HCb.out _ g4
  have f0 := hcell (j := 0) hb
  have f1 := hcell (j := 1) hb
  have f2 := hcell (j := 2) hb
  have f3 := hcell (j := 3) hb
  have fl := hlt hb
  clear hA g4 hj e0 e1 e2 e3 el hb HCb HW3
  go_wp2_with fail
  refine (two_new z w4 HA.out.2.2 HA.out.1 HA.out.2.1 (by decide)).mono ?_
  rintro e w5 ⟨oB, rfl, hT⟩
  have HT := Lib.hid (show Sim z oA oB 0 s ⟨16, 64, 128, 0⟩ w5 from ⟨0, _, _, _, _, Nat.le_refl _, hT, by decide, by decide, rfl⟩)
  clear hT f0 f1 f2 f3 fl HA
  go_wp2_with fail
  go_loopw [10] (fun iv y => ∃ i : Nat, iv = .int .i64 i ∧ i ≤ l.length ∧ Hid (Sim z oA oB i s ⟨16, 64, 128, 0⟩ y)) (fun iv _ => l.length - (intOf iv).toNat)
  case atStart => exact ⟨0, rfl, Nat.zero_le _, HT⟩
  case round =>
    clear HT
    obtain ⟨i, rfl, hi, HK⟩ := hrel
    obtain ⟨kB, hA, LA, hB, LB, hk, hT, h1, h2, hs⟩ := HK.out
    have HT := Lib.hid hT
    have HF := Lib.hid (And.intro h1 (And.intro h2 (And.intro hk hs)))
    clear hT h1 h2 hk hs HK
    by_cases hil : i < l.length
    · obtain ⟨a', c', e, ⟨q, _⟩ | ⟨b, ob, e2, hc⟩⟩ := HL.out
      · rw [q] at hil; simp at hil
      subst e2
      cases e
      have hii := ltS hil
      have hwi := wrapS hil (Nat.le_trans H0.out (by decide))
      have hce := (hc.nw (HX.out.2.trans HT.out.nw)).cell i hil
      clear hc
      generalize l[i] = R at *
      obtain ⟨b0, b1, b2, b3, b4, b5⟩ := R
      have c0 := hce 0 _ rfl
      have c1 := hce 1 _ rfl
      have c2 := hce 2 _ rfl
      have c3 := hce 3 _ rfl
      have c4 := hce 4 _ rfl
      have c5 := hce 5 _ rfl
      simp only [Nat.add_zero] at c0
      clear hce
      go_upto_region 14 with fail
      have hal := allocAt wr (.cells #[.int .i64 b0, .int .i64 b1, .int .i64 b2, .int .i64 b3, .int .i64 b4, .int .i64 b5] 37)
      obtain ⟨y1, hy1⟩ : ∃ y1, wr.alloc (.cells #[.int .i64 b0, .int .i64 b1, .int .i64 b2, .int .i64 b3, .int .i64 b4, .int .i64 b5] 37) = y1 := ⟨_, rfl⟩
      have g1 : Nw wr y1 := by rw [← hy1]; exact (Nw.refl wr).alloc _
      rw [hy1] at hal ⊢
      have d1 := hcell (j := 1) hal
      have d2 := hcell (j := 2) hal
      have d4 := hcell (j := 4) hal
      have d5 := hcell (j := 5) hal
      have dl := hlt hal
      have HAk := Lib.hid (HT.out.ask g1 (kS (Nat.le_of_lt hil) H0.out) (by decide) (by decide) b1 b2 b4 b5)
      obtain ⟨q1, hq1⟩ : ∃ q1, wr.heap.size = q1 := ⟨_, rfl⟩
      rw [hq1] at hal d1 d2 d4 d5 dl HAk ⊢
      have HAl := Lib.hid (And.intro hal (And.intro (Nat.le_of_eq hq1) dl))
      clear hy1 g1 hal hq1 c0 c1 c2 c3 c4 c5
      go_wp2_with fail
      refine HAk.out.mono ?_
      rintro e y2 ⟨⟨v1, rfl⟩, hT2, kp⟩
      have hb2 := (kp q1 (Nat.le_refl _) HAl.out.2.2).trans HAl.out.1
      have HB2 := Lib.hid (fun y (g : Nw y2 y) => g.at' hb2)
      have HT2 := Lib.hid hT2
      clear HAk d1 d2 d4 d5 dl hT2 kp hb2 HAl
      have hne : Nonempty (Wd (fun z => Nw y2 z)) := ⟨⟨_, Nw.refl _⟩⟩
      have C1 := fun (d : Wd (fun z => Nw y2 z)) => hcell (j := 1) (HB2.out _ d.h)
      have C2 := fun (d : Wd (fun z => Nw y2 z)) => hcell (j := 2) (HB2.out _ d.h)
      have M0 := fun (d : Wd (fun z => Nw y2 z)) => HN0.out _ (HT2.out.nw.trans d.h)
      have M1 := fun (d : Wd (fun z => Nw y2 z)) => HN1.out _ (HT2.out.nw.trans d.h)
      obtain ⟨X, hX⟩ : ∃ X, ofS b1 b2 16 = X := ⟨_, rfl⟩
      have HX2 := Lib.hid hX
      have HS1 := Lib.hid (show ∀ y, Nw y2 y → Calls Tryz.prog 20 #[.pointer (some ⟨oA, 0, none⟩), .agg #[.int .i64 b1, .int .i64 b2]] y fun e W' => e = .returned (.int .i64 X) ∧ Nw y W' from fun y g => by
        have := (HT2.out.step g).stripe b1 b2
        rw [← hX]
        exact this)
      have HS2 := Lib.hid (show ∀ y, Nw y2 y → Calls Tryz.prog 20 #[.pointer (some ⟨oA, 0, none⟩), .agg #[.int .i64 t, .int .i64 r]] y fun e W' => e = .returned (.int .i64 (s : Int)) ∧ Nw y W' from fun y g => by
        have := (HT2.out.step g).stripe t r
        rw [← HS.out]
        exact this)
      clear hX
      by_cases hXs : X = (s : Int)
      · subst hXs
        go_wp2_with fail
        refine region_in (fun z => Nw y2 z) (by kernel_rfl) (by kernel_rfl) (Nw.refl y2).dr ?_
        repeat (first | go_big_quiet_step ((first | (with_reducible exact quietN (fun a b h g => h.trans g) (HS1.out _ (Wd.h _))) | (with_reducible exact quietN (fun a b h g => h.trans g) (HS2.out _ (Wd.h _))))) | quiet_step ((first | (with_reducible exact quietN (fun a b h g => h.trans g) (HS1.out _ (Wd.h _))) | (with_reducible exact quietN (fun a b h g => h.trans g) (HS2.out _ (Wd.h _))))))
        refine wpQuiet_nil ?_
        intro d
        have HG3 := Lib.hid d.h
        clear C1 C2 M0 M1 hne
        revert HG3
        generalize d.w = y3
        intro HG3
        have hb3 := HB2.out _ HG3.out
        have d1 := hcell (j := 1) hb3
        have d2 := hcell (j := 2) hb3
        have d4 := hcell (j := 4) hb3
        have d5 := hcell (j := 5) hb3
        have dl := hlt hb3
        have HAk := Lib.hid (HT2.out.swap.ask HG3.out (kS (Nat.le_trans HF.out.2.2.1 (Nat.le_of_lt hil)) H0.out) (by decide) (by decide) b1 b2 b4 b5)
        clear hb3
        go_wp2_with fail
        refine HAk.out.mono ?_
        rintro e y4 ⟨⟨v2, rfl⟩, hT4, _⟩
        have HE := Lib.hid (Sim.on HT.out (Nat.lt_of_lt_of_le hil H0.out) HF.out.1 HF.out.2.1 HF.out.2.2.1 HF.out.2.2.2 HX2.out hT4.swap)
        clear HAk d1 d2 d4 d5 dl hT4
        go_wp2_with fail
        go_roundw
        case rel => exact ⟨i + 1, congrArg (Value.int .i64) (by first | exact nxU i | exact hwi.trans (nxU i)), hil, HE⟩
        case measure => first | exact downU l.length i hil | (rw [hwi]; exact downU l.length i hil)
      · have dX : (X == (s : Int)) = false := beq_eq_false_iff_ne.2 hXs
        go_wp2_with fail
        refine region_in (fun z => Nw y2 z) (by kernel_rfl) (by kernel_rfl) (Nw.refl y2).dr ?_
        repeat (first | go_big_quiet_step ((first | (with_reducible exact quietN (fun a b h g => h.trans g) (HS1.out _ (Wd.h _))) | (with_reducible exact quietN (fun a b h g => h.trans g) (HS2.out _ (Wd.h _))))) | quiet_step ((first | (with_reducible exact quietN (fun a b h g => h.trans g) (HS1.out _ (Wd.h _))) | (with_reducible exact quietN (fun a b h g => h.trans g) (HS2.out _ (Wd.h _))))))
        refine wpQuiet_nil ?_
        intro d
        have HG3 := Lib.hid d.h
        clear C1 C2 M0 M1 hne
        revert HG3
        generalize d.w = y3
        intro HG3
        have HE := Lib.hid (Sim.off HT.out HF.out.1 HF.out.2.1 HF.out.2.2.1 HF.out.2.2.2 (by rw [HX2.out]; exact hXs) (HT2.out.step HG3.out))
        go_wp2_with fail
        go_roundw
        case rel => exact ⟨i + 1, congrArg (Value.int .i64) (by first | exact nxU i | exact hwi.trans (nxU i)), hil, HE⟩
        case measure => first | exact downU l.length i hil | (rw [hwi]; exact downU l.length i hil)
    · obtain rfl : i = l.length := Nat.le_antisymm hi (Nat.le_of_not_lt hil)
      have hne : Nonempty (Wd (fun z => Nw wr z)) := ⟨⟨_, Nw.refl _⟩⟩
      have M0 := fun (d : Wd (fun z => Nw wr z)) => HN0.out _ (HT.out.nw.trans d.h)
      have M1 := fun (d : Wd (fun z => Nw wr z)) => HN1.out _ (HT.out.nw.trans d.h)
      obtain ⟨X, hX⟩ : ∃ X, bsL (byH (t, r) (snapT hA)) = X := ⟨_, rfl⟩
      have HS1 := Lib.hid (show ∀ y, Nw wr y → Calls Tryz.prog 38 #[.pointer (some ⟨oA, 0, none⟩), .agg #[.int .i64 t, .int .i64 r]] y fun e W' => e = .returned (.string X) ∧ Nw y W' from fun y g => by
        have := (HT.out.step g).told (by decide) (by decide) (by decide) t r
        rw [← hX]
        exact this)
      have HS2 := Lib.hid (show ∀ y, Nw wr y → Calls Tryz.prog 38 #[.pointer (some ⟨oB, 0, none⟩), .agg #[.int .i64 t, .int .i64 r]] y fun e W' => e = .returned (.string X) ∧ Nw y W' from fun y g => by
        have := (HT.out.step g).swap.told (by decide) (by decide) (by decide) t r
        rw [← told_sim HT.out.okA HT.out.okB HS.out HF.out.2.2.2, hX] at this
        exact this)
      have HN := Lib.hid (HX.out.2.trans HT.out.nw)
      clear hX
      go_wp2_with fail
      refine region_in (fun z => Nw wr z) (by kernel_rfl) (by kernel_rfl) (Nw.refl wr).dr ?_
      repeat (first | go_big_quiet_step ((first | (with_reducible exact quietN (fun a b h g => h.trans g) (HS1.out _ (Wd.h _))) | (with_reducible exact quietN (fun a b h g => h.trans g) (HS2.out _ (Wd.h _))))) | quiet_step ((first | (with_reducible exact quietN (fun a b h g => h.trans g) (HS1.out _ (Wd.h _))) | (with_reducible exact quietN (fun a b h g => h.trans g) (HS2.out _ (Wd.h _))))))
      refine wpQuiet_nil ?_
      intro d
      have HE := Lib.hid (HN.out.trans d.h)
      clear M0 M1 hne
      revert HE
      generalize d.w = y3
      intro HE
      go_wp2
      go_ret
      exact ⟨rfl, HE.out⟩
end Go.Proofs.YtpffldfpabglbaaGreatDoor.tableApart
end
