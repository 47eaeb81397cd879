/- Texts merged: Shelf, NameE, RefT, Wrap, StripeA, TbJ, QvA, QvC, QvM, QvN -/
import Derived.Test.YtpffldfpabglbaaGreatDoorTableApartB10
import Derived.Shelf.Small.Bits
import Derived.Shelf.Small.Wraps
import Derived.Shelf.Strconv.Itoa0
import Derived.Shelf.Strconv.Itoa1
import Derived.Shelf.LaysM
import Derived.Shelf.Strconv.Itoa2
import Derived.Shelf.Strconv.Itoa3
import Derived.Ground.SlsfProg
import Derived.Shelf.SlSortCmp.Insertion
import Derived.Shelf.SlSortCmp.Insertion1
import Derived.Shelf.SlSortCmp.NoneTotal
import Derived.Test.YtpffldfpabglbaaGreatDoorProg
import Derived.ProofKit
import Derived.OpenShut
import Derived.ShutString
import Derived.Handed
import Derived.LaidMore
import Derived.Lib.SmallJoins
import Derived.LoopTactic
import Derived.BigQuiet
import Derived.Shelf.Abstract

/- Contracts of the library's functions at this program, laid by the kit's own command in plain words; only those that are used. -/
section
namespace Go.Proofs
open Go.Shelf
def Tryz.lays171_ren : Go.Shelf.Ren := ⟨fun | 171 => 204 | 243 => 225 | 246 => 234 | 283 => 246 | 284 => 247 | 285 => 248 | 286 => 249 | 129 => 158 | 317 => 254 | 318 => 255 | 319 => 256 | 320 => 257 | 337 => 261 | 338 => 262 | n => n, fun | 3 => 3 | 9 => 9 | 2 => 2 | 4 => 4 | 171 => 258 | 0 => 0 | 53 => 187 | 37 => 124 | 5 => 5 | 173 => 260 | 212 => 266 | 51 => 149 | 20 => 20 | 213 => 267 | 46 => 144 | 232 => 271 | 233 => 272 | n => n, fun | 17 => 0 | 18 => 1 | 19 => 2 | n => n⟩
theorem Tryz.lays171 : Go.Proofs.Lays.n171 Tryz.prog Tryz.lays171_ren := {
  mixed := by kernel_rfl
  f129 := Tryz.func158.trans (congrArg some (by kernel_rfl))
  f171 := Tryz.func204.trans (congrArg some (by kernel_rfl))
  f243 := Tryz.func225.trans (congrArg some (by kernel_rfl))
  f246 := Tryz.func234.trans (congrArg some (by kernel_rfl))
  f283 := Tryz.func246.trans (congrArg some (by kernel_rfl))
  f284 := Tryz.func247.trans (congrArg some (by kernel_rfl))
  f285 := Tryz.func248.trans (congrArg some (by kernel_rfl))
  f286 := Tryz.func249.trans (congrArg some (by kernel_rfl))
  f317 := Tryz.func254.trans (congrArg some (by kernel_rfl))
  f318 := Tryz.func255.trans (congrArg some (by kernel_rfl))
  f319 := Tryz.func256.trans (congrArg some (by kernel_rfl))
  f320 := Tryz.func257.trans (congrArg some (by kernel_rfl))
  f337 := Tryz.func261.trans (congrArg some (by kernel_rfl))
  f338 := Tryz.func262.trans (congrArg some (by kernel_rfl))
  t0 := Tryz.underlying0
  a0 := Tryz.isAgg0
  z0 := Tryz.sizeOf0
  v0 := Tryz.zeroValue0
  t2 := Tryz.underlying2
  a2 := Tryz.isAgg2
  z2 := Tryz.sizeOf2
  v2 := Tryz.zeroValue2
  t3 := Tryz.underlying3
  a3 := Tryz.isAgg3
  z3 := Tryz.sizeOf3
  v3 := Tryz.zeroValue3
  t4 := Tryz.underlying4
  a4 := Tryz.isAgg4
  z4 := Tryz.sizeOf4
  v4 := Tryz.zeroValue4
  t5 := Tryz.underlying5
  a5 := Tryz.isAgg5
  z5 := Tryz.sizeOf5
  v5 := Tryz.zeroValue5
  t9 := Tryz.underlying9
  a9 := Tryz.isAgg9
  z9 := Tryz.sizeOf9
  v9 := Tryz.zeroValue9
  t20 := Tryz.underlying20
  a20 := Tryz.isAgg20
  z20 := Tryz.sizeOf20
  v20 := Tryz.zeroValue20
  t37 := Tryz.underlying124
  a37 := Tryz.isAgg124
  z37 := Tryz.sizeOf124
  v37 := Tryz.zeroValue124
  t46 := Tryz.underlying144
  a46 := Tryz.isAgg144
  z46 := Tryz.sizeOf144
  v46 := Tryz.zeroValue144
  t51 := Tryz.underlying149
  a51 := Tryz.isAgg149
  z51 := Tryz.sizeOf149
  v51 := Tryz.zeroValue149
  t53 := Tryz.underlying187
  a53 := Tryz.isAgg187
  z53 := Tryz.sizeOf187
  v53 := Tryz.zeroValue187
  t171 := Tryz.underlying258
  a171 := Tryz.isAgg258
  z171 := Tryz.sizeOf258
  v171 := Tryz.zeroValue258
  t173 := Tryz.underlying260
  a173 := Tryz.isAgg260
  z173 := Tryz.sizeOf260
  v173 := Tryz.zeroValue260
  t212 := Tryz.underlying266
  a212 := Tryz.isAgg266
  z212 := Tryz.sizeOf266
  v212 := Tryz.zeroValue266
  t213 := Tryz.underlying267
  a213 := Tryz.isAgg267
  z213 := Tryz.sizeOf267
  t232 := Tryz.underlying271
  a232 := Tryz.isAgg271
  z232 := Tryz.sizeOf271
  v232 := Tryz.zeroValue271
  t233 := Tryz.underlying272
  a233 := Tryz.isAgg272
  z233 := Tryz.sizeOf272
  v233 := Tryz.zeroValue272
  g17 := by kernel_rfl
  g18 := by kernel_rfl
  g19 := by kernel_rfl }
open Go.RowKit Go.Sort Go.Lib in
theorem Tryz.strconv_Itoa_small (i : Nat) (hi : i < 100) (w : World) :
    Calls Tryz.prog 204 #[.int .i64 i] w fun e w' => e = .returned (.string ⟨(Lib.decDigits i).toArray⟩) ∧ w' = w := Any.strconv_Itoa_small Tryz.lays171 i hi w
end Go.Proofs
end

/- Contracts of package name, fifth part: Text; Same of the checker's kit at names; lives. -/
section
namespace Go.Proofs.YtpffldfpabglbaaGreatDoor
open Go.ChangeShapes Go.WideShapes Go.ChangeAt Go.RowKit

/-- The digits of a number. -/
def dig (t : Int) : List UInt8 := Lib.decDigits t.toNat
def txtL (t r : Int) : List UInt8 := if lvl t r = 0 then [100, 98] else if lvl t r = 1 then 116 :: dig t else if lvl t r = 2 then 116 :: (dig t ++ (46 :: 114 :: dig r)) else [63]
def txt (t r : Int) : ByteArray := ⟨(txtL t r).toArray⟩
theorem itoa_small (t : Int) (w : World) (h0 : 0 ≤ t) (h1 : t < 100) :
    Calls Tryz.prog 204 #[.int .i64 t] w fun e w' => e = .returned (.string ⟨(dig t).toArray⟩) ∧ w = w' := by
  obtain ⟨i, rfl⟩ := Int.eq_ofNat_of_zero_le h0
  exact (Tryz.strconv_Itoa_small i (by omega) w).mono fun _ _ ⟨he, hw⟩ => ⟨he, hw.symm⟩
theorem cat (a b : List UInt8) : (⟨a.toArray⟩ : ByteArray) ++ ⟨b.toArray⟩ = ⟨(a ++ b).toArray⟩ := by
  apply ByteArray.ext
  rw [ByteArray.data_append]
  simp
theorem retS {a b : ByteArray} (h : a = b) : Ending.returned (.string a) = .returned (.string b) := by rw [h]
theorem dig_len (t : Int) (h0 : 0 ≤ t) (h1 : t < 100) : (dig t).length ≤ 2 := by
  unfold dig
  by_cases h : t.toNat < 10
  · rw [Lib.decDigits_one h]; simp
  · rw [Lib.decDigits_two h (by omega)]; simp

set_option maxHeartbeats 400000 in
theorem text_db (w : World) :
    Calls Tryz.prog 163 #[.agg #[.int .i64 (-1), .int .i64 (-1)]] w fun e w' => e = .returned (.string ⟨#[100, 98]⟩) ∧ Nw w w' := by
  go_enter Tryz.func163, Tryz.ntmps163
  go_wp2_with (go_at_call 161; refine (level_db _).mono ?_; rintro e w' ⟨rfl, hg⟩)
  go_ret
  exact ⟨rfl, ((Nw.refl _).alloc _).trans hg⟩
set_option maxHeartbeats 400000 in
theorem text_bad (t r : Int) (w : World) (h : lvl t r = -1) :
    Calls Tryz.prog 163 #[.agg #[.int .i64 t, .int .i64 r]] w fun e w' => e = .returned (.string ⟨#[63]⟩) ∧ Nw w w' := by
  have H := Lib.hid h
  clear h
  go_enter Tryz.func163, Tryz.ntmps163
  go_wp2_with (go_at_call 161; refine (level_val _ _ _ _ H.out).mono ?_; rintro e w' ⟨rfl, hg⟩)
  go_ret
  exact ⟨rfl, ((Nw.refl _).alloc _).trans hg⟩
set_option maxHeartbeats 400000 in
theorem text_tab (t : Int) (w : World) (h0 : 0 ≤ t) (h1 : t < 100) :
    Calls Tryz.prog 163 #[.agg #[.int .i64 t, .int .i64 (-1)]] w fun e w' => e = .returned (.string ⟨(116 :: dig t).toArray⟩) ∧ Nw w w' := by
  have hd := dig_len t h0 h1
  go_enter Tryz.func163, Tryz.ntmps163
  go_wp2_with (first | (go_at_call 161; refine (level_tab _ _ h0 h1).mono ?_; rintro e w' ⟨rfl, hg⟩; obtain ⟨hc, hf⟩ := hg.rules) | (go_at_call 204; refine (itoa_small _ _ h0 h1).mono ?_; rintro e w' ⟨rfl, rfl⟩))
  go_ret
  exact ⟨retS (by rw [cat]; rfl), ((Nw.refl _).alloc _).trans hg⟩
set_option maxHeartbeats 400000 in
theorem text_rec (t r : Int) (w : World) (h0 : 0 ≤ t) (h1 : t < 100) (h2 : 0 ≤ r) (h3 : r < 100) :
    Calls Tryz.prog 163 #[.agg #[.int .i64 t, .int .i64 r]] w fun e w' => e = .returned (.string ⟨(116 :: (dig t ++ (46 :: 114 :: dig r))).toArray⟩) ∧ Nw w w' := by
  have hd := dig_len t h0 h1
  have hd2 := dig_len r h2 h3
  have g1 : ¬ 9223372036854775807 < 1 + (dig t).length := by omega
  have g2 : ¬ 9223372036854775807 < 1 + (dig t).length + 2 := by omega
  have g3 : ¬ 9223372036854775807 < 1 + (dig t).length + 2 + (dig r).length := by omega
  clear hd hd2
  go_enter Tryz.func163, Tryz.ntmps163
  go_wp2_with (go_at_call 161; refine (level_rec _ _ _ h0 h1 h2 h3).mono ?_; rintro e w' ⟨rfl, hg⟩; obtain ⟨hc, hf⟩ := hg.rules)
  have hS := box_step hg (box_start' w t r 34)
  clear hc hf
  go_region_held3 (fun w' => w'.cell? ⟨w.heap.size, 0, none⟩ = some (.int .i64 t) ∧ w'.cell? ⟨w.heap.size, 1, none⟩ = some (.int .i64 r) ∧ (w.heap.size < w'.heap.size ∧ Nw w w')) (first | assumption | exact box_step (Nw.refl _).drew1 hS)
    (first | (go_at_call_of 204 (Value.int .i64 t); refine (itoa_small _ _ h0 h1).mono ?_; rintro e w' ⟨rfl, rfl⟩) | (go_at_call_of 204 (Value.int .i64 r); refine (itoa_small _ _ h2 h3).mono ?_; rintro e w' ⟨rfl, rfl⟩))
  all_goals
    rename_i hS2
    go_wp2
    go_ret
    exact ⟨retS (by rw [cat [116] (dig t)]; rw [cat _ [46, 114]]; rw [cat]; simp), hS2.2.2.2⟩
theorem txt_db : txt (-1) (-1) = ⟨#[100, 98]⟩ := rfl
theorem txt_tab (t : Int) (h0 : 0 ≤ t) (h1 : t < 100) : txt t (-1) = ⟨(116 :: dig t).toArray⟩ := by unfold txt txtL; rw [lvl_tab t h0 h1]; rfl
theorem txt_rec (t r : Int) (h0 : 0 ≤ t) (h1 : t < 100) (h2 : 0 ≤ r) (h3 : r < 100) : txt t r = ⟨(116 :: (dig t ++ (46 :: 114 :: dig r))).toArray⟩ := by unfold txt txtL; rw [lvl_rec t r h0 h1 h2 h3]; rfl
theorem txt_bad (t r : Int) (h : lvl t r = -1) : txt t r = ⟨#[63]⟩ := by unfold txt txtL; rw [h]; rfl
theorem text_any (t r : Int) (w : World) :
    Calls Tryz.prog 163 #[.agg #[.int .i64 t, .int .i64 r]] w fun e w' => e = .returned (.string (txt t r)) ∧ Nw w w' := by
  rcases kinds t r with ⟨rfl, rfl⟩ | ⟨h0, h1, rfl⟩ | ⟨h0, h1, h2, h3⟩ | h
  · rw [txt_db]; exact text_db w
  · rw [txt_tab t h0 h1]; exact text_tab t w h0 h1
  · rw [txt_rec t r h0 h1 h2 h3]; exact text_rec t r w h0 h1 h2 h3
  · rw [txt_bad t r h]; exact text_bad t r w h

end Go.Proofs.YtpffldfpabglbaaGreatDoor
end

/- Contracts of the reference's functions on names, second part: digits, Text. -/
section
namespace Go.Proofs.YtpffldfpabglbaaGreatDoor
open Go.ChangeShapes Go.WideShapes Go.ChangeAt Go.RowKit

end Go.Proofs.YtpffldfpabglbaaGreatDoor
end

/- The row's step with what is listed and the world's shape both kept; a name as an argument. -/
section
namespace Go.Proofs.YtpffldfpabglbaaGreatDoor
open Go.ChangeShapes Go.WideShapes Go.ChangeAt Go.RowKit Go.Joins Go.Deep

section
variable {H : Type} {enc : TypeId × Value → H}
theorem handed_and_shaped {a : Assume} {C : Checked} {os : Os} {f : FuncId} {fn : Func} {s : ChangeSpec} {conds : List PathCond} {apart fresh handsOn again : Bool} {X : World → Array Value → Prop}
    (hX : ∀ (w w' : World) (args : Array Value), w.heap = w'.heap → X w args → X w' args)
    (own : ownKnob C.prog.godebug = none) (started : os.Started) (noInit : C.prog.inits.idxOf? f = none) (hfn : C.prog.funcs[f]? = some fn)
    (witness : ∃ (w : World) (tape : Tape) (i : Input), w.os = os ∧ (w.forCall tape i).Shaped C.prog ∧ i.vars = [] ∧ Input.okWide C.prog (w.forCall tape i) .any w.heap.size f i ∧
      ((s.pre enc C.prog fn conds apart (w.forCall tape i).memory i.args ∧ X (w.forCall tape i).memory i.args) ∧ sizedMet enc C.prog fn (OpenSpec.ofChange s) apart (w.forCall tape i).memory i.args) ∧ a.holds C.prog (lone (Frame.enter C.prog f i.args .normal) [] (w.forCall tape i)))
    (contract : ∀ (W : World) (base : Nat) (args : Array Value) (ds gs : List (DataW H)) (before : List MemPlace),
      (∀ (j : Nat) t v, fn.params[j]? = some t → args[j]? = some v → Value.okWide C.prog W .any base t v) →
      DataW.Whole enc C.prog fn.params.toList s.vars apart W args.toList ds gs before →
      (DataW.weightsEach C.prog (fn.params.toList ++ s.plain.varTypes C.prog) (ds ++ gs)).all (· ≤ reachBytes) = true → X W args → W.ShapedOpen C.prog →
      Calls C.prog f args W fun e W' => ∃ v, e = .returned v ∧ s.post enc C.prog fn apart fresh handsOn again W args v W') :
    ReturnsInHanded a C os f .any (fun w args => (s.pre enc C.prog fn conds apart w args ∧ X w args) ∧ sizedMet enc C.prog fn (OpenSpec.ofChange s) apart w args) (s.post enc C.prog fn apart fresh handsOn again) := by
  refine returnsInHanded_of_calls own started noInit witness ?_
  intro w tape i _ hsh _ hok hpre _
  obtain ⟨_, _, _, fn', hfn', _, _, _, _, hval⟩ := hok
  have e : fn' = fn := Option.some.inj (hfn'.symm.trans hfn)
  subst e
  obtain ⟨⟨⟨ds, gs, before, hw, _⟩, hx⟩, hz⟩ := hpre
  have hw' := DataW.Whole.of_heap (w' := w.forCall tape i) (by rfl) hw
  refine (contract (w.forCall tape i) w.heap.size i.args ds gs before hval hw' (hz.weights hw) (hX _ _ _ (by rfl) hx) hsh).mono fun e W' ⟨v, he, hp⟩ => ?_
  subst he
  exact ChangeSpec.post_blind hp
end

section
variable {H : Type} {enc : TypeId × Value → H} {w : World} {base : Nat} {spare : Nat → Bool} {held : Bool}
end
theorem Nw.keep {a b : World} (h : Nw a b) {k o : Nat} {v : Value} (hc : a.cell? ⟨k, o, none⟩ = some v) : b.cell? ⟨k, o, none⟩ = some v := by
  have hk : k < a.heap.size := by
    rcases Nat.lt_or_ge k a.heap.size with g | g
    · exact g
    · simp [World.cell?, Array.getElem?_eq_none g] at hc
  exact (h.cell hk).trans hc
theorem own : ownKnob Tryz.prog.godebug = none := by kernel_rfl
end Go.Proofs.YtpffldfpabglbaaGreatDoor
end

/- Contracts of package stripe, and of the document's own answers: Hash, Of, Same; lives. -/
section
namespace Go.Proofs.YtpffldfpabglbaaGreatDoor
open Go.ChangeShapes Go.WideShapes Go.ChangeAt Go.RowKit

theorem txtL_len (t r : Int) : (txtL t r).length ≤ 1000 := by
  rcases kinds t r with ⟨rfl, rfl⟩ | ⟨h0, h1, rfl⟩ | ⟨h0, h1, h2, h3⟩ | h
  · decide
  · unfold txtL; rw [lvl_tab t h0 h1]; have := dig_len t h0 h1; simp; omega
  · unfold txtL; rw [lvl_rec t r h0 h1 h2 h3]; have := dig_len t h0 h1; have := dig_len r h2 h3; simp; omega
  · unfold txtL; rw [h]; simp
theorem txt_size (t r : Int) : (txt t r).size ≤ 100000 := by
  have := txtL_len t r
  have e : (txt t r).size = (txtL t r).length := by unfold txt; simp [ByteArray.size]
  omega
theorem txt_toList (t r : Int) : (txt t r).data.toList = txtL t r := by unfold txt; rfl

/-- The hash of a name. -/
def hsh (t r : Int) : Int := fnv (txtL t r)
theorem hsh_range (t r : Int) : 0 ≤ hsh t r ∧ hsh t r < 4294967296 := fnv_range _
theorem hash_any (t r : Int) (w : World) :
    Calls Tryz.prog 113 #[.agg #[.int .i64 t, .int .i64 r]] w fun e w' => e = .returned (.int .u32 (hsh t r)) ∧ Nw w w' := by
  have HT := Lib.hid (text_any t r)
  have HS := Lib.hid (fun w => sum_any (txt t r) w (txt_size t r))
  have ht := txt_toList t r
  generalize txt t r = T at HT HS ht
  have Ht := Lib.hid ht
  clear ht
  go_enter Tryz.func113, Tryz.ntmps113
  go_wp2_with fail
  refine (HT.out _).mono ?_
  rintro e w1 ⟨rfl, hg⟩
  go_wp2_with fail
  refine (HS.out _).mono ?_
  rintro e w2 ⟨rfl, hg2⟩
  go_wp2
  go_ret
  exact ⟨by rw [Ht.out]; rfl, (((Nw.refl _).alloc _).trans hg).trans hg2⟩
/-- The stripe of a name, among so many. -/
def ofS (t r n : Int) : Int := if (1 ≤ n ∧ n ≤ 16) ∧ lvl t r ≠ -1 then hsh t r % n else -1
theorem ofS_yes (t r n : Int) (h0 : 1 ≤ n) (h1 : n ≤ 16) (h : lvl t r ≠ -1) : ofS t r n = hsh t r % n := if_pos ⟨⟨h0, h1⟩, h⟩
theorem ofS_bad (t r n : Int) (h : lvl t r = -1) : ofS t r n = -1 := if_neg (fun e => e.2 h)
theorem ofS_out (t r n : Int) (h : ¬ (1 ≤ n ∧ n ≤ 16)) : ofS t r n = -1 := if_neg (fun e => h e.1)
theorem ofS_range (t r n : Int) : ofS t r n = -1 ∨ (0 ≤ ofS t r n ∧ ofS t r n < n) := by
  by_cases h : (1 ≤ n ∧ n ≤ 16) ∧ lvl t r ≠ -1
  · rw [ofS_yes t r n h.1.1 h.1.2 h.2]
    exact .inr ⟨Int.emod_nonneg _ (by omega), Int.emod_lt_of_pos _ (by omega)⟩
  · exact .inl (if_neg h)
theorem possible_yes (n : Int) (w : World) (h0 : 1 ≤ n) (h1 : n ≤ 16) :
    Calls Tryz.prog 111 #[.int .i64 n] w fun e w' => e = .returned (.bool true) ∧ w = w' := by
  go_enter Tryz.func111, Tryz.ntmps111
  go_wp2
  go_ret
  exact ⟨rfl, rfl⟩
theorem possible_no (n : Int) (w : World) (h : ¬ (1 ≤ n ∧ n ≤ 16)) :
    Calls Tryz.prog 111 #[.int .i64 n] w fun e w' => e = .returned (.bool false) ∧ w = w' := by
  by_cases h0 : 1 ≤ n
  · have h1 : 16 < n := by omega
    have hd : decide (n ≤ 16) = false := by simp; omega
    clear h
    go_enter Tryz.func111, Tryz.ntmps111
    go_wp2
    go_ret
    exact ⟨rfl, rfl⟩
  · have hd : decide (1 ≤ n) = false := by simp; omega
    clear h
    go_enter Tryz.func111, Tryz.ntmps111
    go_wp2
    go_ret
    exact ⟨rfl, rfl⟩
set_option maxHeartbeats 400000 in
theorem of_yes (t r n : Int) (w : World) (h0 : 1 ≤ n) (h1 : n ≤ 16) (h : lvl t r ≠ -1) :
    Calls Tryz.prog 68 #[.agg #[.int .i64 t, .int .i64 r], .int .i64 n] w fun e w' => e = .returned (.int .i64 (hsh t r % n)) ∧ Nw w w' := by
  have HC := Lib.hid (fun w => check_ok t r w h)
  have HH := Lib.hid (fun w => hash_any t r w)
  obtain ⟨r0, r1⟩ := hsh_range t r
  generalize hsh t r = H at *
  have m0 : 0 ≤ H % n := Int.emod_nonneg _ (by omega)
  have m1 : H % n < 16 := Int.lt_of_lt_of_le (Int.emod_lt_of_pos _ (by omega)) h1
  have m2 := Lib.hid (show H.tmod n = H % n from Int.tmod_eq_emod_of_nonneg r0)
  have m3 := Lib.hid (show n % 4294967296 = n by omega)
  clear h
  go_enter Tryz.func68, Tryz.ntmps68
  go_wp2_with fail
  refine (possible_yes _ _ h0 h1).mono ?_
  rintro e w1 ⟨rfl, rfl⟩
  go_wp2_with fail
  refine (HC.out _).mono ?_
  rintro e w2 ⟨rfl, hg⟩
  obtain ⟨hc, hf⟩ := hg.rules
  go_wp2_with fail
  refine (HH.out _).mono ?_
  rintro e w3 ⟨rfl, hg3⟩
  clear hc hf
  go_wp2
  go_ret
  exact ⟨rfl, (((Nw.refl _).alloc _).trans hg).trans hg3⟩
theorem of_bad (t r n : Int) (w : World) (h0 : 1 ≤ n) (h1 : n ≤ 16) (h : lvl t r = -1) :
    Calls Tryz.prog 68 #[.agg #[.int .i64 t, .int .i64 r], .int .i64 n] w fun e w' => e = .returned (.int .i64 (-1)) ∧ Nw w w' := by
  have HC := Lib.hid (fun w => check_no t r w h)
  clear h
  go_enter Tryz.func68, Tryz.ntmps68
  go_wp2_with fail
  refine (possible_yes _ _ h0 h1).mono ?_
  rintro e w1 ⟨rfl, rfl⟩
  go_wp2_with fail
  refine (HC.out _).mono ?_
  rintro e w2 ⟨rfl, hg⟩
  go_wp2
  go_ret
  exact ⟨rfl, ((Nw.refl _).alloc _).trans hg⟩
theorem of_out (t r n : Int) (w : World) (h : ¬ (1 ≤ n ∧ n ≤ 16)) :
    Calls Tryz.prog 68 #[.agg #[.int .i64 t, .int .i64 r], .int .i64 n] w fun e w' => e = .returned (.int .i64 (-1)) ∧ Nw w w' := by
  have H := Lib.hid h
  clear h
  go_enter Tryz.func68, Tryz.ntmps68
  go_wp2_with fail
  refine (possible_no _ _ H.out).mono ?_
  rintro e w1 ⟨rfl, rfl⟩
  go_wp2
  go_ret
  exact ⟨rfl, (Nw.refl _).alloc _⟩
theorem of_any (t r n : Int) (w : World) :
    Calls Tryz.prog 68 #[.agg #[.int .i64 t, .int .i64 r], .int .i64 n] w fun e w' => e = .returned (.int .i64 (ofS t r n)) ∧ Nw w w' := by
  by_cases hn : 1 ≤ n ∧ n ≤ 16
  · by_cases h : lvl t r = -1
    · rw [ofS_bad t r n h]; exact of_bad t r n w hn.1 hn.2 h
    · rw [ofS_yes t r n hn.1 hn.2 h]; exact of_yes t r n w hn.1 hn.2 h
  · rw [ofS_out t r n hn]; exact of_out t r n w hn

end Go.Proofs.YtpffldfpabglbaaGreatDoor
end

/- Plain facts of tables: what the calls give, and that what holds of a table is kept. -/
section
namespace Go.Proofs.YtpffldfpabglbaaGreatDoor
set_option linter.unusedVariables false

/-! ### The names that a call leaves -/
theorem mem_putH {hs : List Hq} {x y : Hq} (h : y ∈ putH hs x) : y = x ∨ y ∈ hs := by
  induction hs with
  | nil => exact .inl (by simpa [putH] using h)
  | cons a l ih =>
    unfold putH at h
    split at h
    · rcases List.mem_cons.1 h with q | q
      · exact .inr (by rw [q]; simp)
      · exact (ih q).imp id (List.mem_cons_of_mem _)
    · split at h
      · rcases List.mem_cons.1 h with q | q
        · exact .inl q
        · exact .inr (List.mem_cons_of_mem _ q)
      · rcases List.mem_cons.1 h with q | q
        · exact .inl q
        · exact .inr q
/-- Names are old ones. -/
def NmSub (hs hs' : List Hq) : Prop := ∀ y ∈ hs', ∃ x ∈ hs, nmH y = nmH x
theorem NmSub.refl (hs : List Hq) : NmSub hs hs := fun y hy => ⟨y, hy, rfl⟩
theorem nm_put {hs : List Hq} {a x : Hq} (ha : a ∈ hs) (e : nmH x = nmH a) : NmSub hs (putH hs x) := fun y hy => by
  rcases mem_putH hy with rfl | q
  · exact ⟨a, ha, e⟩
  · exact ⟨y, q, rfl⟩
theorem nm_end {hs : List Hq} {a : Hq} (ha : a ∈ hs) {W : Int} {q : List Rq} : NmSub hs (endS hs ⟨a.t, a.r, W, q⟩) := fun y hy => by
  unfold endS at hy
  split at hy
  · exact ⟨y, (List.mem_filter.1 hy).1, rfl⟩
  · exact nm_put (x := scH ⟨a.t, a.r, W, q⟩) ha rfl y hy
theorem nm_up (hs : List Hq) (id m : Int) : NmSub hs (upBS hs id m) := by
  unfold upBS
  split
  · rename_i he
    unfold upBE at he
    cases e : ofId hs id with
    | none => exact NmSub.refl hs
    | some h =>
      rw [e] at he
      by_cases hb : badM m
      · rw [if_pos hb] at he; cases he
      · rw [if_neg hb] at he
        obtain ⟨h1, h2⟩ := upR_nm h id m he
        exact nm_put (of_some e).1 (Prod.ext h1 h2)
  · exact NmSub.refl hs
theorem nm_ab (hs : List Hq) (L : List Bool) (id : Int) : NmSub hs (abBS hs L id).1 := by
  unfold abBS
  cases e : ofId hs id with
  | none => exact NmSub.refl hs
  | some h =>
    simp only
    split
    · exact nm_end (of_some e).1
    · exact NmSub.refl hs
theorem nm_hn (hs : List Hq) (id txn : Int) : NmSub hs (hnBS hs id txn) := by
  unfold hnBS
  split
  · rename_i he
    unfold hnBE at he
    cases e : ofId hs id with
    | none => exact NmSub.refl hs
    | some h =>
      rw [e] at he
      obtain ⟨h1, h2⟩ := hnR_nm h id txn he
      exact nm_put (of_some e).1 (Prod.ext h1 h2)
  · exact NmSub.refl hs
theorem nm_ask (n : Nat) (hs : List Hq) (L : List Bool) (t r txn m : Int) : ∀ y ∈ (askBS n hs L t r txn m).1, nmH y = (t, r) ∨ ∃ x ∈ hs, nmH y = nmH x := fun y hy => by
  unfold askBS at hy
  split at hy
  · rcases mem_putH hy with rfl | q
    · exact .inl rfl
    · exact .inr ⟨y, q, rfl⟩
  · exact .inr ⟨y, hy, rfl⟩
theorem ab_len (hs : List Hq) (L : List Bool) (id : Int) : (abBS hs L id).2.length = L.length := by
  unfold abBS
  cases e : ofId hs id with
  | none => rfl
  | some h =>
    simp only
    split
    · show (if (rqB h id).md = 0 then gvL L id else L).length = _
      split
      · exact gvL_len L id
      · rfl
    · rfl
theorem askS_len (n : Nat) (hs : List Hq) (L : List Bool) (t r txn m : Int) : (askBS n hs L t r txn m).2.length = L.length := by
  unfold askBS
  split
  · exact tkL_len L
  · rfl

/-! ### Tables -/
/-- What holds of a table of S stripes, n heads in each at most, N numbers, behind k calls. -/
structure TbOk (S n N k : Nat) (hss : List (List Hq)) (L : List Bool) : Prop where
  inv : TbInv n k hss L
  sl : hss.length = S
  ll : L.length = N
  st : ∀ i (hi : i < hss.length), ∀ x ∈ hss[i], ofS x.t x.r S = i
theorem tbok_nil (S n N : Nat) : TbOk S n N 0 (List.replicate S []) (List.replicate N false) := by
  refine ⟨tbinv_nil n S N, by simp, by simp, fun i hi x hx => ?_⟩
  rw [List.getElem_replicate] at hx
  cases hx
section
variable {S n N k : Nat} {hss : List (List Hq)} {L L' : List Bool}
theorem TbOk.more {k' : Nat} (h : TbOk S n N k hss L) (hk : k ≤ k') : TbOk S n N k' hss L := ⟨h.inv.more hk, h.sl, h.ll, h.st⟩
theorem TbOk.put (h : TbOk S n N k hss L) {i : Nat} (hi : i < hss.length) {hs : List Hq} (b : BInv n (k + 1) hs (tOth hss i) L') (hl : L'.length = L.length) (hn : ∀ y ∈ hs, ofS y.t y.r S = i ∨ ∃ x ∈ hss[i], nmH y = nmH x) : TbOk S n N (k + 1) (hss.set i hs) L' := by
  refine ⟨h.inv.put hi b, by rw [List.length_set]; exact h.sl, hl.trans h.ll, fun j hj x hx => ?_⟩
  rw [List.length_set] at hj
  by_cases e : i = j
  · subst e
    rw [List.getElem_set_self] at hx
    rcases hn x hx with q | ⟨y, hy, q⟩
    · exact q
    · have h1 := h.st i hi y hy
      have h2 : x.t = y.t := congrArg Prod.fst q
      have h3 : x.r = y.r := congrArg Prod.snd q
      rw [h2, h3]
      exact h1
  · rw [List.getElem_set_ne e] at hx
    exact h.st j hj x hx
theorem TbOk.srt (h : TbOk S n N k hss L) : ∀ l ∈ hss, SrtH l := fun l hl => (h.inv.part l hl).srt
theorem TbOk.apart (h : TbOk S n N k hss L) : ApartN hss.flatten :=
  apart_st h.srt (fun nm => (ofS nm.1 nm.2 S).toNat) fun i hi x hx => by
    show (ofS x.t x.r S).toNat = i
    rw [h.st i hi x hx]
    rfl
end
/-- Where a name's requests are; where a request is. -/
def wthT (hss : List (List Hq)) (id : Int) : Nat := (atT hss id).getD 0
def hsAt (hss : List (List Hq)) (i : Nat) : List Hq := hss.getD i []
def askTR (n : Nat) (hss : List (List Hq)) (L : List Bool) (t r txn m : Int) : Int × Bool × Int := if ofS t r hss.length = -1 then (0, false, 2) else askBR n (hsAt hss (ofS t r hss.length).toNat) L t r txn m
def askTS (n : Nat) (hss : List (List Hq)) (L : List Bool) (t r txn m : Int) : List (List Hq) × List Bool := if ofS t r hss.length = -1 then (hss, L) else (hss.set (ofS t r hss.length).toNat (askBS n (hsAt hss (ofS t r hss.length).toNat) L t r txn m).1, (askBS n (hsAt hss (ofS t r hss.length).toNat) L t r txn m).2)
def upTS (hss : List (List Hq)) (id m : Int) : List (List Hq) := hss.set (wthT hss id) (upBS (hsAt hss (wthT hss id)) id m)
def abTS (hss : List (List Hq)) (L : List Bool) (id : Int) : List (List Hq) × List Bool := (hss.set (wthT hss id) (abBS (hsAt hss (wthT hss id)) L id).1, (abBS (hsAt hss (wthT hss id)) L id).2)
def hnTS (hss : List (List Hq)) (id txn : Int) : List (List Hq) := hss.set (wthT hss id) (hnBS (hsAt hss (wthT hss id)) id txn)
theorem hsAt_get {hss : List (List Hq)} {i : Nat} (hi : i < hss.length) : hsAt hss i = hss[i] := by unfold hsAt; rw [List.getD_eq_getElem?_getD, List.getElem?_eq_getElem hi]; rfl
theorem wth_lt {hss : List (List Hq)} (h : 0 < hss.length) (id : Int) : wthT hss id < hss.length := by
  unfold wthT
  cases e : atT hss id with
  | none => exact h
  | some i => exact (atT_some e).1
section
variable {S n N k : Nat} {hss : List (List Hq)} {L : List Bool}
theorem TbOk.ask (h : TbOk S n N k hss L) (hS : S ≤ 16) (hk : k ≤ 1000) (t r txn m : Int) : TbOk S n N (k + 1) (askTS n hss L t r txn m).1 (askTS n hss L t r txn m).2 := by
  unfold askTS
  by_cases e : ofS t r hss.length = -1
  · rw [if_pos e]
    exact h.more (Nat.le_succ k)
  · rw [if_neg e]
    have hr := ofS_range t r hss.length
    have hi : (ofS t r hss.length).toNat < hss.length := by omega
    have b := h.inv.get hi
    rw [hsAt_get hi]
    refine h.put hi (binv_ask b hk t r txn m) (askS_len _ _ _ _ _ _ _) fun y hy => ?_
    rcases nm_ask _ _ _ _ _ _ _ y hy with q | q
    · refine .inl ?_
      rw [show y.t = t from congrArg Prod.fst q, show y.r = r from congrArg Prod.snd q, ← h.sl]
      omega
    · exact .inr q
theorem TbOk.up (h : TbOk S n N k hss L) (hS : 0 < S) (hk : k ≤ 1000) (id m : Int) : TbOk S n N (k + 1) (upTS hss id m) L := by
  have hi := wth_lt (by rw [h.sl]; exact hS) id
  unfold upTS
  rw [hsAt_get hi]
  exact h.put hi (binv_up (h.inv.get hi) hk id m) rfl fun y hy => .inr (nm_up _ _ _ y hy)
theorem TbOk.ab (h : TbOk S n N k hss L) (hS : 0 < S) (id : Int) : TbOk S n N (k + 1) (abTS hss L id).1 (abTS hss L id).2 := by
  have hi := wth_lt (by rw [h.sl]; exact hS) id
  unfold abTS
  rw [hsAt_get hi]
  exact h.put hi (binv_ab (h.inv.get hi) id) (ab_len _ _ _) fun y hy => .inr (nm_ab _ _ _ y hy)
theorem TbOk.hn (h : TbOk S n N k hss L) (hS : 0 < S) (id txn : Int) : TbOk S n N (k + 1) (hnTS hss id txn) L := by
  have hi := wth_lt (by rw [h.sl]; exact hS) id
  unfold hnTS
  rw [hsAt_get hi]
  exact h.put hi (binv_hn (h.inv.get hi) id txn) rfl fun y hy => .inr (nm_hn _ _ _ y hy)
end
/-! ### Which numbers a call takes and gives back -/
theorem ids_same {most most' k k' : Nat} {hs hs' : List Hq} {X : List Int} {L : List Bool} (b : BInv most k hs X L) (b' : BInv most' k' hs' X L) : (allIds hs').Perm (allIds hs) := (List.perm_append_right_iff X).1 (b'.ids.trans b.ids.symm)
theorem ids_take {most most' k k' : Nat} {hs hs' : List Hq} {X : List Int} {L : List Bool} (b : BInv most k hs X L) (h : fre L < L.length) (b' : BInv most' k' hs' X (tkL L)) : (allIds hs').Perm ((fre L : Int) :: allIds hs) := by
  refine (List.perm_append_right_iff X).1 ((b'.ids.trans (lnt_take h)).trans ?_)
  rw [List.cons_append]
  exact (b.ids.symm).cons _
end Go.Proofs.YtpffldfpabglbaaGreatDoor
end

/- The developers' package queue: holds, waits, lockable, closures, the order of turns. -/
section
namespace Go.Proofs.YtpffldfpabglbaaGreatDoor
open Go.RowKit
set_option linter.unusedVariables false      -- a contract need not use every name

theorem dHolds (R : Rq) (w : World) : Calls Tryz.prog 185 #[rqV R] w fun e w' => e = .returned (.bool (R.md != 0)) ∧ Nw w w' := by
  obtain ⟨a, b, m, n, s⟩ := R
  unfold rqV
  go_enter Tryz.func185, Tryz.ntmps185
  go_wp2
  go_ret
  exact ⟨rfl, (Nw.refl _).alloc _⟩
theorem dWaits (R : Rq) (w : World) : Calls Tryz.prog 179 #[rqV R] w fun e w' => e = .returned (.bool (decide (0 < R.sn))) ∧ Nw w w' := by
  obtain ⟨a, b, m, n, s⟩ := R
  unfold rqV
  go_enter Tryz.func179, Tryz.ntmps179
  go_wp2
  go_ret
  exact ⟨rfl, (Nw.refl _).alloc _⟩
theorem dKnown (m : Int) (w : World) : Calls Tryz.prog 208 #[.int .i64 m] w fun e w' => e = .returned (.bool (knI m)) ∧ Nw w w' := by
  by_cases h : 0 ≤ m ∧ m < 7
  · refine (known_yes m w h.1 h.2).mono ?_
    rintro e w' ⟨rfl, rfl⟩
    exact ⟨by rw [(knI_iff m).2 h], Nw.refl _⟩
  · refine (known_no m w (by omega)).mono ?_
    rintro e w' ⟨rfl, rfl⟩
    have : knI m = false := by
      cases e : knI m with
      | false => rfl
      | true => exact absurd ((knI_iff m).1 e) h
    exact ⟨by rw [this], Nw.refl _⟩
theorem dLockable (m : Int) (w : World) : Calls Tryz.prog 170 #[.int .i64 m] w fun e w' => e = .returned (.bool ((m != 0) && knI m)) ∧ Nw w w' := by
  cases h : (m != 0) with
  | false =>
    go_enter Tryz.func170, Tryz.ntmps170
    go_wp2
    go_ret
    exact ⟨rfl, Nw.refl _⟩
  | true =>
    have HK := Lib.hid (dKnown m)
    go_enter Tryz.func170, Tryz.ntmps170
    go_wp2_with (go_at_call 208; refine (HK.out _).mono ?_; rintro e w' ⟨rfl, hN⟩)
    go_ret
    exact ⟨rfl, hN⟩

/-- A function value that tells of each request whether it is one looked for. -/
def Tells (w : World) (f : Value) (p : Rq → Bool) : Prop := ∃ (g : Nat) (lb : Array Value), f = .func (.func g) #[] lb ∧ (∀ args w, (callFunc g args).run Tryz.prog w = .ok (.enter g args) w) ∧ ∀ (R : Rq) (w1 : World), Nw w w1 → Calls Tryz.prog g (#[rqV R] ++ lb) w1 fun e w' => e = .returned (.bool (p R)) ∧ Nw w1 w'
theorem Tells.nw {w w' : World} {f : Value} {p : Rq → Bool} (h : Tells w f p) (g : Nw w w') : Tells w' f p := by
  obtain ⟨k, lb, e, eg, hc⟩ := h
  exact ⟨k, lb, e, eg, fun R w1 h1 => hc R w1 (g.trans h1)⟩

theorem dWithID1 (i : Int) (R : Rq) (p : Nat) (w : World) (h : w.cell? ⟨p, 0, none⟩ = some (.int .i64 i)) : Calls Tryz.prog 207 #[rqV R, .pointer (some ⟨p, 0, none⟩)] w fun e w' => e = .returned (.bool (R.id == i)) ∧ Nw w w' := by
  obtain ⟨a, b, m, n, s⟩ := R
  unfold rqV
  have hp := World.block_lt_of_cell? _ _ h
  go_enter Tryz.func207, Tryz.ntmps207
  go_wp2
  go_ret
  exact ⟨rfl, (Nw.refl _).alloc _⟩
theorem dOfTxn1 (i : Int) (R : Rq) (p : Nat) (w : World) (h : w.cell? ⟨p, 0, none⟩ = some (.int .i64 i)) : Calls Tryz.prog 209 #[rqV R, .pointer (some ⟨p, 0, none⟩)] w fun e w' => e = .returned (.bool (R.txn == i)) ∧ Nw w w' := by
  obtain ⟨a, b, m, n, s⟩ := R
  unfold rqV
  have hp := World.block_lt_of_cell? _ _ h
  go_enter Tryz.func209, Tryz.ntmps209
  go_wp2
  go_ret
  exact ⟨rfl, (Nw.refl _).alloc _⟩
theorem dWithID (i : Int) (w : World) : Calls Tryz.prog 167 #[.int .i64 i] w fun e w' => ∃ p, e = .returned (.func (.func 207) #[] #[.pointer (some ⟨p, 0, none⟩)]) ∧ Nw w w' ∧ w'.cell? ⟨p, 0, none⟩ = some (.int .i64 i) := by
  go_enter Tryz.func167, Tryz.ntmps167
  go_wp2
  go_ret
  exact ⟨_, rfl, (Nw.refl _).alloc _, hcell (allocAt w _)⟩
theorem dOfTxn (i : Int) (w : World) : Calls Tryz.prog 171 #[.int .i64 i] w fun e w' => ∃ p, e = .returned (.func (.func 209) #[] #[.pointer (some ⟨p, 0, none⟩)]) ∧ Nw w w' ∧ w'.cell? ⟨p, 0, none⟩ = some (.int .i64 i) := by
  go_enter Tryz.func171, Tryz.ntmps171
  go_wp2
  go_ret
  exact ⟨_, rfl, (Nw.refl _).alloc _, hcell (allocAt w _)⟩
theorem Tells.withID {w : World} {i : Int} {p : Nat} (h : w.cell? ⟨p, 0, none⟩ = some (.int .i64 i)) : Tells w (.func (.func 207) #[] #[.pointer (some ⟨p, 0, none⟩)]) (fun R => R.id == i) :=
  ⟨_, _, rfl, enters_of Tryz.func207 (by kernel_rfl) rfl, fun R w1 g => dWithID1 i R p w1 (g.kp h)⟩
theorem Tells.ofTxn {w : World} {i : Int} {p : Nat} (h : w.cell? ⟨p, 0, none⟩ = some (.int .i64 i)) : Tells w (.func (.func 209) #[] #[.pointer (some ⟨p, 0, none⟩)]) (fun R => R.txn == i) :=
  ⟨_, _, rfl, enters_of Tryz.func209 (by kernel_rfl) rfl, fun R w1 g => dOfTxn1 i R p w1 (g.kp h)⟩
end Go.Proofs.YtpffldfpabglbaaGreatDoor
end

/- The developers' package queue: the order of turns. -/
section
namespace Go.Proofs.YtpffldfpabglbaaGreatDoor
open Go.RowKit
set_option linter.unusedVariables false      -- a contract need not use every name

/-- How two that wait compare: who upgrades comes first, then who came first. -/
def hoI (a b : Rq) : Int := if (a.md != 0) = (b.md != 0) then 0 else if (a.md != 0) = true then -1 else 1
def cmI (a b : Int) : Int := if a < b then -1 else if b < a then 1 else 0
def toI (a b : Rq) : Int := if hoI a b ≠ 0 then hoI a b else cmI a.sn b.sn
theorem nwS {w : World} : ∀ a b, Nw w a → Nw a b → Nw w b := fun _ _ h g => h.trans g
theorem Nw.drewQ {w a : World} (h : Nw w a) : Nw w a.drew := h.drewN 1
set_option maxHeartbeats 1000000 in
theorem dByHolding (A B : Rq) (w : World) : Calls Tryz.prog 235 #[rqV A, rqV B] w fun e w' => e = .returned (.int .i64 (hoI A B)) ∧ Nw w w' := by
  have HA := Lib.hid (dHolds A)
  have HB := Lib.hid (dHolds B)
  obtain ⟨V, hV⟩ : ∃ V, hoI A B = V := ⟨_, rfl⟩
  have hV2 := hV
  rw [hV]
  unfold hoI at hV2
  generalize (A.md != 0) = x at *
  generalize (B.md != 0) = y at *
  clear hV
  have HV := Lib.hid hV2
  clear hV2
  obtain ⟨a, b, m, n, s⟩ := A
  obtain ⟨a', b', m', n', s'⟩ := B
  unfold rqV at *
  have HX := Lib.hid (two_boxes w (.cells #[.int .i64 a, .int .i64 b, .int .i64 m, .int .i64 n, .int .i64 s] 50) (.cells #[.int .i64 a', .int .i64 b', .int .i64 m', .int .i64 n', .int .i64 s'] 50))
  go_enter Tryz.func235, Tryz.ntmps235
  go_wp2_with fail
  generalize (w.alloc (.cells #[.int .i64 a, .int .i64 b, .int .i64 m, .int .i64 n, .int .i64 s] 50)).alloc (.cells #[.int .i64 a', .int .i64 b', .int .i64 m', .int .i64 n', .int .i64 s'] 50) = w1 at *
  obtain ⟨p, hp⟩ : ∃ p, w.heap.size = p := ⟨_, rfl⟩
  rw [hp] at HX ⊢
  have hl1 := hlt HX.out.1
  have hl2 := hlt HX.out.2.1
  have c0 := hcell (j := 0) HX.out.1
  have c1 := hcell (j := 1) HX.out.1
  have c2 := hcell (j := 2) HX.out.1
  have c3 := hcell (j := 3) HX.out.1
  have c4 := hcell (j := 4) HX.out.1
  have d0 := hcell (j := 0) HX.out.2.1
  have d1 := hcell (j := 1) HX.out.2.1
  have d2 := hcell (j := 2) HX.out.2.1
  have d3 := hcell (j := 3) HX.out.2.1
  have d4 := hcell (j := 4) HX.out.2.1
  have HN := Lib.hid HX.out.2.2.1
  clear HX hp hl1 hl2
  refine region_in (Nw w1) (by kernel_rfl) (by kernel_rfl) (Nw.refl _).drewQ ?_
  have e0 : ∀ d : Wd (Nw w1), d.w.cell? _ = _ := fun d => d.h.kp c0
  have e1 : ∀ d : Wd (Nw w1), d.w.cell? _ = _ := fun d => d.h.kp c1
  have e2 : ∀ d : Wd (Nw w1), d.w.cell? _ = _ := fun d => d.h.kp c2
  have e3 : ∀ d : Wd (Nw w1), d.w.cell? _ = _ := fun d => d.h.kp c3
  have e4 : ∀ d : Wd (Nw w1), d.w.cell? _ = _ := fun d => d.h.kp c4
  have f0 : ∀ d : Wd (Nw w1), d.w.cell? _ = _ := fun d => d.h.kp d0
  have f1 : ∀ d : Wd (Nw w1), d.w.cell? _ = _ := fun d => d.h.kp d1
  have f2 : ∀ d : Wd (Nw w1), d.w.cell? _ = _ := fun d => d.h.kp d2
  have f3 : ∀ d : Wd (Nw w1), d.w.cell? _ = _ := fun d => d.h.kp d3
  have f4 : ∀ d : Wd (Nw w1), d.w.cell? _ = _ := fun d => d.h.kp d4
  have hne : Nonempty (Wd (Nw w1)) := ⟨⟨_, Nw.refl w1⟩⟩
  repeat (first | go_big_quiet_step ((first | (with_reducible exact quietN nwS (HA.out _)) | (with_reducible exact quietN nwS (HB.out _)))) | quiet_step ((first | (with_reducible exact quietN nwS (HA.out _)) | (with_reducible exact quietN nwS (HB.out _)))))
  refine wpQuiet_nil ?_
  intro d
  have h6 := d.h
  clear e0 e1 e2 e3 e4 f0 f1 f2 f3 f4 hne
  revert h6
  generalize d.w = w6
  intro h6
  replace c0 := h6.kp c0
  replace c1 := h6.kp c1
  replace c2 := h6.kp c2
  replace c3 := h6.kp c3
  replace c4 := h6.kp c4
  replace HN := Lib.hid (HN.out.trans h6)
  clear h6 d0 d1 d2 d3 d4
  cases x <;> cases y
  · have e : V = 0 := by simpa using HV.out.symm
    subst e
    go_wp2
    go_ret
    exact ⟨rfl, HN.out⟩
  · have e : V = 1 := by simpa using HV.out.symm
    subst e
    go_wp2_with (go_at_call 185; refine (HA.out _).mono ?_; rintro e w' ⟨rfl, g⟩)
    go_ret
    exact ⟨rfl, HN.out.trans g⟩
  · have e : V = -1 := by simpa using HV.out.symm
    subst e
    go_wp2_with (go_at_call 185; refine (HA.out _).mono ?_; rintro e w' ⟨rfl, g⟩)
    go_ret
    exact ⟨rfl, HN.out.trans g⟩
  · have e : V = 0 := by simpa using HV.out.symm
    subst e
    go_wp2
    go_ret
    exact ⟨rfl, HN.out⟩
theorem dNaN (a : Int) (w : World) : Calls Tryz.prog 159 #[.int .i64 a] w fun e w' => e = .returned (.bool false) ∧ w = w' := by
  go_enter Tryz.func159, Tryz.ntmps159
  go_wp2
  go_ret
  exact ⟨rfl, rfl⟩
theorem dCompare (a b : Int) (w : World) : Calls Tryz.prog 108 #[.int .i64 a, .int .i64 b] w fun e w' => e = .returned (.int .i64 (cmI a b)) ∧ Nw w w' := by
  have HN := Lib.hid dNaN
  unfold cmI
  by_cases h1 : a < b
  · rw [if_pos h1]
    go_enter Tryz.func108, Tryz.ntmps108
    go_wp2_with (go_at_call 159; refine (HN.out _ _).mono ?_; rintro e w' ⟨rfl, rfl⟩)
    go_ret
    exact ⟨rfl, Nw.refl _⟩
  rw [if_neg h1]
  by_cases h2 : b < a
  · rw [if_pos h2]
    go_enter Tryz.func108, Tryz.ntmps108
    go_wp2_with (go_at_call 159; refine (HN.out _ _).mono ?_; rintro e w' ⟨rfl, rfl⟩)
    go_ret
    exact ⟨rfl, Nw.refl _⟩
  · rw [if_neg h2]
    go_enter Tryz.func108, Tryz.ntmps108
    go_wp2_with (go_at_call 159; refine (HN.out _ _).mono ?_; rintro e w' ⟨rfl, rfl⟩)
    go_ret
    exact ⟨rfl, Nw.refl _⟩
/-- cmp.Or of two numbers. -/
theorem dOr (x y : Int) (b : Nat) (w : World) (h0 : w.cell? ⟨b, 0, none⟩ = some (.int .i64 x)) (h1 : w.cell? ⟨b, 1, none⟩ = some (.int .i64 y)) :
    Calls Tryz.prog 107 #[.slice (some ⟨b, 0, none⟩) 2 2] w fun e w' => e = .returned (.int .i64 (if x ≠ 0 then x else y)) ∧ Nw w w' := by
  have hp := World.block_lt_of_cell? _ _ h0
  by_cases hx : x = 0
  · have dx : (x != 0) = false := by simpa using hx
    rw [if_neg (by simpa using hx)]
    by_cases hy : y = 0
    · have dy : (y != 0) = false := by simpa using hy
      subst hx hy
      go_enter Tryz.func107, Tryz.ntmps107
      go_wp2
      refine wp_loop_rounds 3 ?_
      repeat (rw [rounds_succ]; go_wp2)
      go_ret
      exact ⟨rfl, Nw.refl _⟩
    · have dy : (y != 0) = true := by simpa using hy
      clear hy
      go_enter Tryz.func107, Tryz.ntmps107
      go_wp2
      refine wp_loop_rounds 3 ?_
      repeat (rw [rounds_succ]; go_wp2)
      go_ret
      exact ⟨rfl, Nw.refl _⟩
  · have dx : (x != 0) = true := by simpa using hx
    rw [if_pos (by simpa using hx)]
    clear hx
    go_enter Tryz.func107, Tryz.ntmps107
    go_wp2
    refine wp_loop_rounds 3 ?_
    repeat (rw [rounds_succ]; go_wp2)
    go_ret
    exact ⟨rfl, Nw.refl _⟩
set_option maxHeartbeats 1000000 in
set_option maxRecDepth 100000 in
theorem dByTurn (A B : Rq) (w : World) : Calls Tryz.prog 228 #[rqV A, rqV B] w fun e w' => e = .returned (.int .i64 (toI A B)) ∧ Nw w w' := by
  have HH := Lib.hid (dByHolding A B)
  have HC := Lib.hid (dCompare A.sn B.sn)
  unfold toI
  generalize hoI A B = x at *
  obtain ⟨y, hy⟩ : ∃ y, cmI A.sn B.sn = y := ⟨_, rfl⟩
  rw [hy] at HC ⊢
  clear hy
  obtain ⟨V, hV⟩ : ∃ V, (if x ≠ 0 then x else y) = V := ⟨_, rfl⟩
  have HO := Lib.hid (dOr x y)
  rw [hV] at HO ⊢
  clear hV
  obtain ⟨a, b, m, n, s⟩ := A
  obtain ⟨a', b', m', n', s'⟩ := B
  unfold rqV at *
  simp only at HC
  have HX := Lib.hid (two_boxes w (.cells #[.int .i64 a, .int .i64 b, .int .i64 m, .int .i64 n, .int .i64 s] 50) (.cells #[.int .i64 a', .int .i64 b', .int .i64 m', .int .i64 n', .int .i64 s'] 50))
  go_enter Tryz.func228, Tryz.ntmps228
  go_wp2_with fail
  generalize (w.alloc (.cells #[.int .i64 a, .int .i64 b, .int .i64 m, .int .i64 n, .int .i64 s] 50)).alloc (.cells #[.int .i64 a', .int .i64 b', .int .i64 m', .int .i64 n', .int .i64 s'] 50) = w1 at *
  obtain ⟨p, hp⟩ : ∃ p, w.heap.size = p := ⟨_, rfl⟩
  rw [hp] at HX ⊢
  have c0 := hcell (j := 0) HX.out.1
  have c1 := hcell (j := 1) HX.out.1
  have c2 := hcell (j := 2) HX.out.1
  have c3 := hcell (j := 3) HX.out.1
  have c4 := hcell (j := 4) HX.out.1
  have d0 := hcell (j := 0) HX.out.2.1
  have d1 := hcell (j := 1) HX.out.2.1
  have d2 := hcell (j := 2) HX.out.2.1
  have d3 := hcell (j := 3) HX.out.2.1
  have d4 := hcell (j := 4) HX.out.2.1
  have HN := Lib.hid HX.out.2.2.1
  clear HX hp
  have e0 : ∀ d, Nw w1 d → d.cell? _ = _ := fun d h => h.kp c0
  have e1 : ∀ d, Nw w1 d → d.cell? _ = _ := fun d h => h.kp c1
  have e2 : ∀ d, Nw w1 d → d.cell? _ = _ := fun d h => h.kp c2
  have e3 : ∀ d, Nw w1 d → d.cell? _ = _ := fun d h => h.kp c3
  have e4 : ∀ d, Nw w1 d → d.cell? _ = _ := fun d h => h.kp c4
  have f0 : ∀ d, Nw w1 d → d.cell? _ = _ := fun d h => h.kp d0
  have f1 : ∀ d, Nw w1 d → d.cell? _ = _ := fun d h => h.kp d1
  have f2 : ∀ d, Nw w1 d → d.cell? _ = _ := fun d h => h.kp d2
  have f3 : ∀ d, Nw w1 d → d.cell? _ = _ := fun d h => h.kp d3
  have f4 : ∀ d, Nw w1 d → d.cell? _ = _ := fun d h => h.kp d4
  clear c0 c1 c2 c3 c4 d0 d1 d2 d3 d4
  refine region_told [some true, some true, some false, some true, some true, some true, some true, none, some false, none, some false, none, some false, none, some true] (Nw w1) (by kernel_rfl) (by kernel_rfl) (by kernel_rfl) (Nw.refl _).drewQ ?_
  have g1 := (Nw.refl w1).drewQ
  obtain ⟨w2, hw2⟩ : ∃ w2, w1.drew = w2 := ⟨_, rfl⟩
  rw [hw2] at g1 ⊢
  clear hw2
  repeat (first
    | (refine HW.off ?_)
    | (refine HW.go (fun K hK => ?_); go_simp; (first | (go_at_call 235; (with_reducible refine (HH.out _).mono ?_); rintro e wy ⟨rfl, g2⟩) | (go_at_call 108; (with_reducible refine (HC.out _).mono ?_); rintro e wy ⟨rfl, g2⟩)); refine hK.out _ _ (g1.trans g2) ?_; intro _; replace g1 := g1.trans g2; clear hK K g2)
    | (refine HW.take' ?_; apply Exists.intro; refine ⟨Or.inl ⟨by rfl, ?_⟩, ?_⟩; (intro x hx; go_simp; first | done | with_reducible rfl); (try simp only [Act.put, List.setIfInBounds_toArray, List.set_cons_zero, List.set_cons_succ])))
  refine HW.go (fun K hK => ?_)
  go_simp
  have hb := allocAt wy (.cells #[.int .i64 x, .int .i64 y] 3)
  have g3 := g1.alloc (.cells #[.int .i64 x, .int .i64 y] 3)
  have o0 := hcell (j := 0) hb
  have o1 := hcell (j := 1) hb
  refine hK.out _ _ g3 ?_
  intro _
  clear hK K
  refine HW.off ?_
  refine HW.go (fun K hK => ?_)
  go_simp
  go_at_call 107
  refine (HO.out _ _ o0 o1).mono ?_
  rintro e wz ⟨rfl, g4⟩
  have g5 := g3.trans g4
  refine hK.out _ _ g5 ?_
  intro _
  clear hK K
  refine HW.take' ?_
  apply Exists.intro
  refine ⟨Or.inl ⟨by rfl, ?_⟩, ?_⟩
  · (intro x hx; go_simp; first | done | with_reducible rfl)
  (try simp only [Act.put, List.setIfInBounds_toArray, List.set_cons_zero, List.set_cons_succ])
  refine HW.end_ ?_
  refine NoPanic.normal ?_
  go_wp2
  go_ret
  exact ⟨rfl, HN.out.trans g5⟩
/-- A request in a box. -/
structure RqB (w : World) (p : Nat) (a b m n s : Int) : Prop where
  lt : p < w.heap.size
  c0 : w.cell? ⟨p, 0, none⟩ = some (.int .i64 a)
  c1 : w.cell? ⟨p, 1, none⟩ = some (.int .i64 b)
  c2 : w.cell? ⟨p, 2, none⟩ = some (.int .i64 m)
  c3 : w.cell? ⟨p, 3, none⟩ = some (.int .i64 n)
  c4 : w.cell? ⟨p, 4, none⟩ = some (.int .i64 s)
theorem RqB.nw {w w' : World} {p : Nat} {a b m n s : Int} (h : RqB w p a b m n s) (g : Nw w w') : RqB w' p a b m n s :=
  ⟨Nat.lt_of_lt_of_le h.lt g.sz, g.kp h.c0, g.kp h.c1, g.kp h.c2, g.kp h.c3, g.kp h.c4⟩
theorem RqB.of {w : World} {p : Nat} {a b m n s : Int} {T : TypeId} {fr : Nat × Nat} (h : w.heap[p]? = some (.cells #[.int .i64 a, .int .i64 b, .int .i64 m, .int .i64 n, .int .i64 s] T fr)) : RqB w p a b m n s :=
  ⟨hlt h, hcell h, hcell h, hcell h, hcell h, hcell h⟩
theorem RqB.made (w : World) (a b m n s : Int) (T : TypeId) : RqB (w.alloc (.cells #[.int .i64 a, .int .i64 b, .int .i64 m, .int .i64 n, .int .i64 s] T)) w.heap.size a b m n s := RqB.of (allocAt w _)
theorem RqB.cells {w : World} {p : Nat} {a b m n s : Int} (h : RqB w p a b m n s) : ∀ j u, (rqrow ⟨a, b, m, n, s⟩)[j]? = some u → w.cell? ⟨p, j, none⟩ = some u := by
  intro j u hu
  have hj : j < 5 := by have := (List.getElem?_eq_some_iff.1 hu).1; simpa [rqrow] using this
  rcases j with _ | _ | _ | _ | _ | j
  · exact h.c0.trans hu
  · exact h.c1.trans hu
  · exact h.c2.trans hu
  · exact h.c3.trans hu
  · exact h.c4.trans hu
  · omega
theorem dAhead1 (S R : Rq) (p : Nat) (w : World) (h : RqB w p S.id S.txn S.md S.wt S.sn) : Calls Tryz.prog 227 #[rqV R, .pointer (some ⟨p, 0, none⟩)] w fun e w' => e = .returned (.bool (decide (0 < R.sn) && decide (toI R S < 0))) ∧ Nw w w' := by
  have HWt := Lib.hid (dWaits R)
  have HT := Lib.hid (dByTurn R S)
  generalize toI R S = x at *
  obtain ⟨y, hd⟩ : ∃ y, decide (x < 0) = y := ⟨_, rfl⟩
  rw [hd]
  generalize decide (0 < R.sn) = z at *
  obtain ⟨a, b, m, n, s⟩ := R
  obtain ⟨a', b', m', n', s'⟩ := S
  unfold rqV at *
  simp only at h
  have hl : w.heap.size < (w.alloc (.cells #[.int .i64 a, .int .i64 b, .int .i64 m, .int .i64 n, .int .i64 s] 50)).heap.size := by simp
  have hb := RqB.made w a b m n s 50
  have hN := (Nw.refl w).alloc (.cells #[.int .i64 a, .int .i64 b, .int .i64 m, .int .i64 n, .int .i64 s] 50)
  obtain ⟨w1, hw1⟩ : ∃ w1, w.alloc (.cells #[.int .i64 a, .int .i64 b, .int .i64 m, .int .i64 n, .int .i64 s] 50) = w1 := ⟨_, rfl⟩
  rw [hw1] at hb hN hl
  have HW1 := Lib.hid hw1
  clear hw1
  obtain ⟨hl0, c0, c1, c2, c3, c4⟩ := h.nw hN
  have hBB := Lib.hid (And.intro (h.nw hN) hb)
  obtain ⟨hl2, d0, d1, d2, d3, d4⟩ := hb
  have HN := Lib.hid hN
  clear hN h
  cases z
  · go_enter Tryz.func227, Tryz.ntmps227
    go_wp2_with fail
    rw [HW1.out]
    go_wp2_with (go_at_call 179; refine (HWt.out _).mono ?_; rintro e w2 ⟨rfl, g⟩)
    go_ret
    exact ⟨rfl, HN.out.trans g⟩
  · go_enter Tryz.func227, Tryz.ntmps227
    go_wp2_with fail
    rw [HW1.out]
    go_wp2_with fail
    go_at_call 179
    refine (HWt.out _).mono ?_
    rintro e w2 ⟨rfl, g⟩
    clear hl0 c0 c1 c2 c3 c4 hl2 d0 d1 d2 d3 d4
    obtain ⟨hl0, c0, c1, c2, c3, c4⟩ := hBB.out.1.nw g
    obtain ⟨hl2, d0, d1, d2, d3, d4⟩ := hBB.out.2.nw g
    have HN2 := Lib.hid (HN.out.trans g)
    clear HN hl g hBB
    go_wp2_with (go_at_call 228; refine (HT.out _).mono ?_; rintro e w3 ⟨rfl, g3⟩)
    go_ret
    exact ⟨rfl, HN2.out.trans g3⟩
theorem dAheadOf (S : Rq) (w : World) : Calls Tryz.prog 212 #[rqV S] w fun e w' => ∃ p, e = .returned (.func (.func 227) #[] #[.pointer (some ⟨p, 0, none⟩)]) ∧ Nw w w' ∧ RqB w' p S.id S.txn S.md S.wt S.sn := by
  obtain ⟨a', b', m', n', s'⟩ := S
  unfold rqV
  go_enter Tryz.func212, Tryz.ntmps212
  go_wp2
  go_ret
  exact ⟨_, rfl, (Nw.refl _).alloc _, RqB.made _ _ _ _ _ _ _⟩
theorem Tells.ahead {w : World} {S : Rq} {p : Nat} (h : RqB w p S.id S.txn S.md S.wt S.sn) : Tells w (.func (.func 227) #[] #[.pointer (some ⟨p, 0, none⟩)]) (fun R => decide (0 < R.sn) && decide (toI R S < 0)) :=
  ⟨_, _, rfl, enters_of Tryz.func227 (by kernel_rfl) rfl, fun R w1 g => dAhead1 S R p w1 (h.nw g)⟩
end Go.Proofs.YtpffldfpabglbaaGreatDoor
end

/- insertionSortCmpFunc of ints, with any function value that compares and makes at most new blocks. -/
section
namespace Go.Proofs.YtpffldfpabglbaaGreatDoor
open Go.RowKit
set_option linter.unusedVariables false      -- a contract need not use every name

/-- A function value that compares two numbers that meet a condition, whatever is done to block gi. -/
def Cmps (w : World) (f : Value) (gi : Nat) (c : Int → Int → Int) (P : Int → Prop) : Prop := ∃ (g : Nat) (lb : Array Value), f = .func (.func g) #[] lb ∧ (∀ args w, (callFunc g args).run Tryz.prog w = .ok (.enter g args) w) ∧
  ∀ (x y : Int) (w1 : World), P x → P y → Tch (fun k => k = gi) w w1 → Calls Tryz.prog g (#[.int .i64 x, .int .i64 y] ++ lb) w1 fun e w' => e = .returned (.int .i64 (c x y)) ∧ Nw w1 w'
def insF (c : Int → Int → Int) (a : Nat) : Nat → List Int → List Int
  | 0, L => L
  | j + 1, L => if a < j + 1 ∧ c (L.getD (j + 1) 0) (L.getD j 0) < 0 then insF c a j ((L.set (j + 1) (L.getD j 0)).set j (L.getD (j + 1) 0)) else L
def srtF (c : Int → Int → Int) (a : Nat) : Nat → Nat → List Int → List Int
  | 0, _, L => L
  | n + 1, i, L => srtF c a n (i + 1) (insF c a i L)
theorem insF_stop {c : Int → Int → Int} {a j : Nat} {L : List Int} (h : ¬ a < j) : insF c a j L = L := by
  cases j with
  | zero => rfl
  | succ j => unfold insF; rw [if_neg (fun e => h e.1)]
theorem insF_keep {c : Int → Int → Int} {a j : Nat} {L : List Int} (h : ¬ c (L.getD (j + 1) 0) (L.getD j 0) < 0) : insF c a (j + 1) L = L := by
  unfold insF; rw [if_neg (fun e => h e.2)]
theorem insF_go {c : Int → Int → Int} {a j : Nat} {L : List Int} (h1 : a < j + 1) (h : c (L.getD (j + 1) 0) (L.getD j 0) < 0) : insF c a (j + 1) L = insF c a j ((L.set (j + 1) (L.getD j 0)).set j (L.getD (j + 1) 0)) := by
  conv => lhs; unfold insF
  rw [if_pos ⟨h1, h⟩]
theorem set2_all {P : Int → Prop} {L : List Int} (h : ∀ x ∈ L, P x) {x y : Int} (hx : P x) (hy : P y) {m m1 : Nat} : ∀ z ∈ (L.set m y).set m1 x, P z := by
  intro z hz
  rcases List.mem_or_eq_of_mem_set hz with hz | rfl
  · rcases List.mem_or_eq_of_mem_set hz with hz | rfl
    · exact h z hz
    · exact hy
  · exact hx
theorem Tch.st' {S : Nat → Prop} {a b : World} (h : Tch S a b) {p : Nat} (hp : S p) (j : Nat) (u : Value) : Tch S a (b.setCell ⟨p, j, none⟩ u) := h.set (p := ⟨p, j, none⟩) (.inl hp) u
set_option maxRecDepth 100000 in
set_option maxHeartbeats 4000000 in
theorem insSort (f : Value) (c : Int → Int → Int) (P : Int → Prop) (g cap : Nat) (l : List Int) (a b : Nat) (w : World) (hl : l.length ≤ 1000) (hab : a ≤ b) (hb : b ≤ l.length) (h : IS w (.slice (some ⟨g, 0, none⟩) l.length cap) l) (hP : ∀ x ∈ l, P x) (hf : Cmps w f g c P) :
    Calls Tryz.prog 258 #[.slice (some ⟨g, 0, none⟩) l.length cap, .int .i64 a, .int .i64 b, f] w fun e w' => e = .returned (.tuple #[]) ∧ IS w' (.slice (some ⟨g, 0, none⟩) l.length cap) (srtF c a (b - (a + 1)) (a + 1) l) ∧ Tch (fun k => k = g) w w' := by
  obtain ⟨gf, lb, rfl, eg, hT⟩ := hf
  have HT := Lib.hid hT
  have H := Lib.hid (And.intro h hP)
  obtain ⟨n, hn⟩ : ∃ n, l.length = n := ⟨_, rfl⟩
  rw [hn] at hl hb H ⊢
  obtain ⟨R, hR⟩ : ∃ R, srtF c a (b - (a + 1)) (a + 1) l = R := ⟨_, rfl⟩
  rw [hR]
  have HR := Lib.hid (And.intro hR hn)
  clear hT h hP hR hn
  go_enter Tryz.func258, Tryz.ntmps258
  go_wp2
  go_loopw [8] (fun i wr => ∃ (k : Nat) (L : List Int), i = .int .i64 k ∧ a < k ∧ (k ≤ b ∨ k = a + 1) ∧ srtF c a (b - k) k L = R ∧ L.length = n ∧ IS wr (.slice (some ⟨g, 0, none⟩) n cap) L ∧ (∀ x ∈ L, P x) ∧ Tch (fun k => k = g) w wr) (fun i _ => b - (intOf i).toNat)
  case atStart => exact ⟨a + 1, l, by go_num, by omega, .inr rfl, HR.out.1, HR.out.2, H.out.1, H.out.2, Tch.refl _ _⟩
  case round =>
    obtain ⟨k, L, rfl, hak, hkb, hS, hLn, hI, hPL, hTc⟩ := hrel
    by_cases hlt : k < b
    · have hS2 : srtF c a (b - (k + 1)) (k + 1) (insF c a k L) = R := by
        rw [show b - k = (b - (k + 1)) + 1 by omega] at hS
        exact hS
      obtain ⟨M, hM⟩ : ∃ M, insF c a k L = M := ⟨_, rfl⟩
      rw [hM] at hS2
      have HM := Lib.hid (And.intro hM (And.intro hI (And.intro hPL (And.intro hTc hLn))))
      have HS := Lib.hid hS2
      clear hS hS2 hM hI hPL hTc hLn
      go_wp2
      go_loopw [9] (fun j wr => ∃ (m : Nat) (L : List Int), j = .int .i64 m ∧ a ≤ m ∧ m ≤ k ∧ insF c a m L = M ∧ L.length = n ∧ IS wr (.slice (some ⟨g, 0, none⟩) n cap) L ∧ (∀ x ∈ L, P x) ∧ Tch (fun k => k = g) w wr) (fun j _ => (intOf j).toNat)
      case atStart => exact ⟨k, L, rfl, by omega, Nat.le_refl _, HM.out.1, HM.out.2.2.2.2, HM.out.2.1, HM.out.2.2.1, HM.out.2.2.2.1⟩
      case round =>
        obtain ⟨m, L, rfl, ham, hmk, hF, hLn, hI, hPL, hTc⟩ := hrel
        have q1 := (Nw.refl wr).drewQ
        obtain ⟨wc, hwc⟩ : ∃ wc, wr.drew = wc := ⟨_, rfl⟩
        have hgl := hI.glt
        by_cases hm : a < m
        · obtain ⟨m1, hm1⟩ : ∃ m1, m = m1 + 1 := ⟨m - 1, by omega⟩
          have dm : decide ((a : Int) < (m : Int)) = true := by rw [decide_eq_true_iff]; omega
          have c1 := hI.cell m (by omega)
          have c0 := hI.cell m1 (by omega)
          have px : P (L.getD m 0) := by
            rw [show L.getD m 0 = L[m]'(by omega) by simp [List.getD, show m < L.length by omega]]
            exact hPL _ (List.getElem_mem _)
          have py : P (L.getD m1 0) := by
            rw [show L.getD m1 0 = L[m1]'(by omega) by simp [List.getD, show m1 < L.length by omega]]
            exact hPL _ (List.getElem_mem _)
          have HC := Lib.hid (fun (w1 : World) (hN : Nw wr w1) => HT.out _ _ w1 px py (hTc.trans (Tch.nw hN)))
          have hw1 : IntKind.i64.wrap ((m : Int) - 1) = (m1 : Int) := by rw [IntKind.wrap_i64]; omega
          have hi1 : (m : Int) < (n : Int) := by omega
          have hi0 : (m1 : Int) < (n : Int) := by omega
          have hkn1 : m < n := by omega
          have hkn0 : m1 < n := by omega
          have HGo : Hid (c (L.getD m 0) (L.getD m1 0) < 0 → insF c a m1 ((L.set m (L.getD m1 0)).set m1 (L.getD m 0)) = M) := Lib.hid (by subst hm1; exact fun e => (insF_go (L := L) hm e).symm.trans hF)
          have HKe : Hid (¬ c (L.getD m 0) (L.getD m1 0) < 0 → L = M) := Lib.hid (by subst hm1; exact fun e => (insF_keep (a := a) (L := L) e).symm.trans hF)
          have HM1 := Lib.hid hm1
          clear hm1
          have fz := fun j => hI.frozen j
          have HI := Lib.hid (And.intro hI (And.intro hPL (And.intro hTc hLn)))
          have hpx := Lib.hid px
          have hpy := Lib.hid py
          clear px py hI hPL hTc hF hLn
          generalize hxe : L.getD m 0 = x at *
          generalize hye : L.getD m1 0 = y at *
          obtain ⟨z, hz⟩ : ∃ z, c x y = z := ⟨_, rfl⟩
          rw [hz] at HC HGo HKe
          clear hz hxe hye
          have s1 : ∀ u, Nw wr u → u.cell? ⟨g, m, none⟩ = some (.int .i64 x) := fun u hu => hu.kp c1
          have s0 : ∀ u, Nw wr u → u.cell? ⟨g, m1, none⟩ = some (.int .i64 y) := fun u hu => hu.kp c0
          by_cases hz0 : z < 0
          · have dz : decide (z < 0) = true := by simpa using hz0
            have HF := Lib.hid (HGo.out hz0)
            clear HGo HKe hz0 c1 c0
            go_wp2
            refine region_told [some true, some true, some true, some true, some true, some true, some true, some true, some true, some true, some true, some true, some true, some true, some false, none, some true, some true] (Nw wr) (by kernel_rfl) (by kernel_rfl) (by kernel_rfl) q1 ?_
            rw [hwc] at q1 ⊢
            clear hwc
            repeat (first
              | (refine HW.off ?_)
              | (refine HW.take' ?_; (first | (refine ⟨undef, Or.inr ⟨by rfl, rfl⟩, ?_⟩) | (apply Exists.intro; refine ⟨Or.inl ⟨by rfl, ?_⟩, ?_⟩; (intro x hx; go_simp; first | done | with_reducible rfl))); (try simp only [Act.put, List.setIfInBounds_toArray, List.set_cons_zero, List.set_cons_succ]))
              | (refine HW.go (fun K hK => ?_); go_simp; (first
                | (go_at_fn gf; (with_reducible refine (HC.out _ q1).mono ?_); rintro e wy ⟨rfl, g2⟩; refine hK.out _ _ (q1.trans g2) ?_; intro _; replace q1 := q1.trans g2; clear hK K g2)
                | (refine hK.out _ _ q1 ?_; intro _; clear hK K))))
            refine HW.end_ ?_
            refine NoPanic.normal ?_
            have t1 := s1 _ q1
            have t0 := s0 _ q1
            have hgl2 := Nat.lt_of_lt_of_le hgl q1.sz
            have fz2 := fun j => (q1.froz (o := j) hgl).trans (fz j)
            have HQ := Lib.hid q1
            clear s1 s0 q1 fz hgl
            go_wp2
            have hn1 : ¬ m1 = m := by have := HM1.out; omega
            have hn2 : ¬ m = m1 := by have := HM1.out; omega
            go_region
            go_wp2
            go_roundw
            case rel => exact ⟨m1, _, by go_num, by have := HM1.out; omega, by have := HM1.out; omega, HF.out, by rw [List.length_set, List.length_set]; exact HI.out.2.2.2, (((HI.out.1.nw HQ.out).set m y).set m1 x).nw (Nw.refl _).drewQ, set2_all HI.out.2.1 hpx.out hpy.out, (((HI.out.2.2.1.trans (Tch.nw HQ.out)).st' rfl m _).st' rfl m1 _).drewN 1⟩
            case measure => have := HM1.out; simp [intOf]; omega
          · have dz : decide (z < 0) = false := by simpa using hz0
            have HF := Lib.hid (HKe.out hz0)
            clear HGo HKe hz0 c1 c0
            go_wp2
            refine region_told [some true, some true, some true, some true, some true, some true, some true, some true, some true, some true, some true, some true, some true, some true, some false, none, some true, some true] (Nw wr) (by kernel_rfl) (by kernel_rfl) (by kernel_rfl) q1 ?_
            rw [hwc] at q1 ⊢
            clear hwc
            repeat (first
              | (refine HW.off ?_)
              | (refine HW.take' ?_; (first | (refine ⟨undef, Or.inr ⟨by rfl, rfl⟩, ?_⟩) | (apply Exists.intro; refine ⟨Or.inl ⟨by rfl, ?_⟩, ?_⟩; (intro x hx; go_simp; first | done | with_reducible rfl))); (try simp only [Act.put, List.setIfInBounds_toArray, List.set_cons_zero, List.set_cons_succ]))
              | (refine HW.go (fun K hK => ?_); go_simp; (first
                | (go_at_fn gf; (with_reducible refine (HC.out _ q1).mono ?_); rintro e wy ⟨rfl, g2⟩; refine hK.out _ _ (q1.trans g2) ?_; intro _; replace q1 := q1.trans g2; clear hK K g2)
                | (refine hK.out _ _ q1 ?_; intro _; clear hK K))))
            refine HW.end_ ?_
            refine NoPanic.normal ?_
            have HQ := Lib.hid q1
            clear s1 s0 q1 fz hgl
            go_wp2
            go_roundw
            case rel => exact ⟨k + 1, L, by go_num, by omega, .inl (by omega), by rw [HF.out]; exact HS.out, HI.out.2.2.2, HI.out.1.nw HQ.out, HI.out.2.1, HI.out.2.2.1.trans (Tch.nw HQ.out)⟩
            case measure => simp [intOf]; omega
        · have dm : decide ((a : Int) < (m : Int)) = false := by rw [decide_eq_false_iff_not]; omega
          have HF := Lib.hid ((insF_stop (c := c) (L := L) hm).symm.trans hF)
          have HI := Lib.hid (And.intro hI (And.intro hPL (And.intro hTc hLn)))
          clear hI hPL hTc hLn hF
          go_wp2
          refine region_told [some true, some true, some true, some true, some true, some true, some true, some true, some true, some true, some true, some true, some true, some true, some false, none, some true, some true] (Nw wr) (by kernel_rfl) (by kernel_rfl) (by kernel_rfl) q1 ?_
          rw [hwc] at q1 ⊢
          clear hwc
          repeat (first
            | (refine HW.off ?_)
            | (refine HW.take' ?_; (first | (refine ⟨undef, Or.inr ⟨by rfl, rfl⟩, ?_⟩) | (apply Exists.intro; refine ⟨Or.inl ⟨by rfl, ?_⟩, ?_⟩; (intro x hx; go_simp; first | done | with_reducible rfl))); (try simp only [Act.put, List.setIfInBounds_toArray, List.set_cons_zero, List.set_cons_succ]))
            | (refine HW.go (fun K hK => ?_); go_simp; ((refine hK.out _ _ q1 ?_; intro _; clear hK K))))
          refine HW.end_ ?_
          refine NoPanic.normal ?_
          have HQ := Lib.hid q1
          clear q1 hgl
          go_wp2
          go_roundw
          case rel => exact ⟨k + 1, L, by go_num, by omega, .inl (by omega), by rw [HF.out]; exact HS.out, HI.out.2.2.2, HI.out.1.nw HQ.out, HI.out.2.1, HI.out.2.2.1.trans (Tch.nw HQ.out)⟩
          case measure => simp [intOf]; omega
    · have HF := Lib.hid (show L = R by rw [← hS, show b - k = 0 by omega]; rfl)
      have HI := Lib.hid (And.intro hI hTc)
      clear hS hI hTc hPL hLn
      go_wp2
      exact bodyPost_end (results_none rfl _ _ _) rfl ⟨rfl, by rw [← HF.out]; exact HI.out.1, HI.out.2⟩
end Go.Proofs.YtpffldfpabglbaaGreatDoor
end

/- SortStableFunc of at most 20 ints; plain facts of the insertion sort. -/
section
namespace Go.Proofs.YtpffldfpabglbaaGreatDoor
open Go.RowKit
set_option linter.unusedVariables false      -- a contract need not use every name

/-- Insert from behind. -/
def insL (c : Int → Int → Int) (v : Int) : List Int → List Int
  | [] => [v]
  | x :: r => if c v x < 0 then x :: insL c v r else v :: x :: r
def sortS (c : Int → Int → Int) (S : List Int) : List Int := (S.foldl (fun acc v => insL c v acc) []).reverse
theorem getD_atQ {P : List Int} (x : Int) (Q : List Int) {k : Nat} (h : P.length = k) : (P ++ x :: Q).getD k 0 = x := by subst h; simp [List.getD]
theorem set_at' {P : List Int} (x y : Int) (Q : List Int) {k : Nat} (h : P.length = k) : (P ++ x :: Q).set k y = P ++ y :: Q := by
  subst h
  rw [List.set_append_right _ _ (Nat.le_refl _), Nat.sub_self, List.set_cons_zero]
theorem insF_spec (c : Int → Int → Int) (v : Int) (P : List Int) (a : Nat) (hP : P.length = a) : ∀ (X Q : List Int), insF c a (a + X.length) (P ++ X.reverse ++ v :: Q) = P ++ (insL c v X).reverse ++ Q
  | [], Q => by
    rw [insF_stop (by simp)]
    simp [insL]
  | x :: X, Q => by
    have hl : (P ++ X.reverse).length = a + X.length := by simp [hP]
    have hl2 : (P ++ X.reverse ++ [x]).length = a + X.length + 1 := by simp [hP]; omega
    have e0 : P ++ (x :: X).reverse ++ v :: Q = (P ++ X.reverse) ++ x :: (v :: Q) := by simp
    have e1 : P ++ (x :: X).reverse ++ v :: Q = (P ++ X.reverse ++ [x]) ++ v :: Q := by simp
    have g1 : (P ++ (x :: X).reverse ++ v :: Q).getD (a + X.length + 1) 0 = v := by rw [e1]; exact getD_atQ v Q hl2
    have g0 : (P ++ (x :: X).reverse ++ v :: Q).getD (a + X.length) 0 = x := by rw [e0]; exact getD_atQ x _ hl
    rw [show a + (x :: X).length = a + X.length + 1 by simp; omega]
    unfold insL
    by_cases h : c v x < 0
    · rw [if_pos h, insF_go (by omega) (by rw [g1, g0]; exact h), g1, g0]
      have s1 : ((P ++ (x :: X).reverse ++ v :: Q).set (a + X.length + 1) x).set (a + X.length) v = P ++ X.reverse ++ v :: (x :: Q) := by
        rw [e1, set_at' v x Q hl2]
        have : P ++ X.reverse ++ [x] ++ x :: Q = (P ++ X.reverse) ++ x :: (x :: Q) := by simp
        rw [this, set_at' x v _ hl]
      rw [s1, insF_spec c v P a hP X (x :: Q)]
      simp
    · rw [if_neg h, insF_keep (by rw [g1, g0]; exact h)]
      simp
theorem srtF_spec (c : Int → Int → Int) (P : List Int) (a : Nat) (hP : P.length = a) : ∀ (S X Q : List Int), srtF c a S.length (a + X.length) (P ++ X.reverse ++ S ++ Q) = P ++ (S.foldl (fun acc v => insL c v acc) X).reverse ++ Q
  | [], X, Q => by simp [srtF]
  | v :: S, X, Q => by
    have hx : ∀ l : List Int, (insL c v l).length = l.length + 1 := by
      intro l
      induction l with
      | nil => rfl
      | cons x r ih => unfold insL; split <;> simp [ih]
    show srtF c a S.length (a + X.length + 1) (insF c a (a + X.length) (P ++ X.reverse ++ v :: S ++ Q)) = _
    have e : P ++ X.reverse ++ v :: S ++ Q = P ++ X.reverse ++ v :: (S ++ Q) := by simp
    rw [e, insF_spec c v P a hP X (S ++ Q)]
    have := srtF_spec c P a hP S (insL c v X) Q
    rw [hx X, show a + (X.length + 1) = a + X.length + 1 by omega] at this
    rw [show P ++ (insL c v X).reverse ++ (S ++ Q) = P ++ (insL c v X).reverse ++ S ++ Q by simp, this]
    rfl
/-- A part sorted, from a to b. -/
theorem srt_part (c : Int → Int → Int) (l : List Int) (a b : Nat) (hab : a ≤ b) (hb : b ≤ l.length) : srtF c a (b - (a + 1)) (a + 1) l = l.take a ++ sortS c ((l.drop a).take (b - a)) ++ l.drop b := by
  have hsp : l = l.take a ++ ((l.drop a).take (b - a) ++ l.drop b) := by
    have h1 : l.drop b = (l.drop a).drop (b - a) := by rw [List.drop_drop, show a + (b - a) = b by omega]
    rw [h1, List.take_append_drop, List.take_append_drop]
  obtain ⟨S, hS⟩ : ∃ S, (l.drop a).take (b - a) = S := ⟨_, rfl⟩
  have hSl : S.length = b - a := by rw [← hS]; simp; omega
  rw [hS] at hsp ⊢
  have hPl : (l.take a).length = a := by simp; omega
  generalize l.take a = P at *
  generalize l.drop b = Q at *
  subst hsp
  cases S with
  | nil =>
    have : b - (a + 1) = 0 := by simp at hSl; omega
    rw [this]
    simp [srtF, sortS]
  | cons v S =>
    have h1 : b - (a + 1) = S.length := by simp at hSl; omega
    rw [h1]
    have := srtF_spec c P a hPl S [v] Q
    rw [show P ++ [v].reverse ++ S ++ Q = P ++ (v :: S ++ Q) by simp] at this
    rw [show a + 1 = a + [v].length by rfl, this]
    rfl
theorem insL_perm (c : Int → Int → Int) (v : Int) : ∀ l : List Int, (insL c v l).Perm (v :: l)
  | [] => .refl _
  | x :: r => by
    unfold insL
    split
    · exact (List.Perm.cons x (insL_perm c v r)).trans (List.Perm.swap v x r)
    · exact .refl _
theorem fold_perm (c : Int → Int → Int) : ∀ (S X : List Int), (S.foldl (fun acc v => insL c v acc) X).Perm (X ++ S)
  | [], X => by simp
  | v :: S, X => by
    rw [List.foldl_cons]
    refine (fold_perm c S (insL c v X)).trans ?_
    refine ((insL_perm c v X).append_right S).trans ?_
    exact (List.perm_middle (l₁ := X) (a := v) (l₂ := S)).symm
theorem sortS_perm (c : Int → Int → Int) (S : List Int) : (sortS c S).Perm S := by
  unfold sortS
  exact (List.reverse_perm _).trans ((fold_perm c S []).trans (by simp))
/-- Sorted by a strict order on the members. -/
theorem insL_sorted (c : Int → Int → Int) (M : Int → Prop) (tr : ∀ x y z, M x → M y → M z → c x y < 0 → c y z < 0 → c x z < 0) (tot : ∀ x y, M x → M y → x ≠ y → c x y < 0 ∨ c y x < 0) (v : Int) (hv : M v) : ∀ l : List Int, (∀ x ∈ l, M x ∧ x ≠ v) → l.Pairwise (fun x y => c y x < 0) → (insL c v l).Pairwise (fun x y => c y x < 0)
  | [], _, _ => by simp [insL]
  | x :: r, h, hp => by
    have hx := h x (by simp)
    have hr : ∀ y ∈ r, M y ∧ y ≠ v := fun y hy => h y (List.mem_cons_of_mem _ hy)
    rw [List.pairwise_cons] at hp
    unfold insL
    split
    · rename_i hc
      rw [List.pairwise_cons]
      refine ⟨fun y hy => ?_, insL_sorted c M tr tot v hv r hr hp.2⟩
      rcases List.mem_cons.1 ((insL_perm c v r).mem_iff.1 hy) with rfl | hy
      · exact hc
      · exact hp.1 y hy
    · rename_i hc
      have hxv : c x v < 0 := (tot v x hv hx.1 (fun e => hx.2 e.symm)).resolve_left hc
      rw [List.pairwise_cons]
      refine ⟨fun y hy => ?_, by rw [List.pairwise_cons]; exact hp⟩
      rcases List.mem_cons.1 hy with rfl | hy
      · exact hxv
      · exact tr y x v (hr y hy).1 hx.1 hv (hp.1 y hy) hxv
theorem fold_sorted (c : Int → Int → Int) (M : Int → Prop) (tr : ∀ x y z, M x → M y → M z → c x y < 0 → c y z < 0 → c x z < 0) (tot : ∀ x y, M x → M y → x ≠ y → c x y < 0 ∨ c y x < 0) : ∀ (S X : List Int), (∀ x ∈ S, M x) → (∀ x ∈ X, M x) → (X ++ S).Nodup → X.Pairwise (fun x y => c y x < 0) → (S.foldl (fun acc v => insL c v acc) X).Pairwise (fun x y => c y x < 0)
  | [], X, _, _, _, h => h
  | v :: S, X, hS, hX, hn, h => by
    rw [List.foldl_cons]
    have hn' := List.nodup_append.1 hn
    refine fold_sorted c M tr tot S _ (fun x hx => hS x (List.mem_cons_of_mem _ hx)) (fun x hx => ?_) ?_ (insL_sorted c M tr tot v (hS v (by simp)) X (fun x hx => ⟨hX x hx, fun e => hn'.2.2 x hx v (by simp) e⟩) h)
    · rcases List.mem_cons.1 ((insL_perm c v X).mem_iff.1 hx) with rfl | hx
      · exact hS _ (by simp)
      · exact hX x hx
    · refine (((insL_perm c v X).append_right S).trans ?_).nodup_iff.2 hn
      exact (List.perm_middle (l₁ := X) (a := v) (l₂ := S)).symm
theorem sortS_sorted (c : Int → Int → Int) (M : Int → Prop) (tr : ∀ x y z, M x → M y → M z → c x y < 0 → c y z < 0 → c x z < 0) (tot : ∀ x y, M x → M y → x ≠ y → c x y < 0 ∨ c y x < 0) (S : List Int) (hS : ∀ x ∈ S, M x) (hn : S.Nodup) : (sortS c S).Pairwise (fun x y => c x y < 0) := by
  unfold sortS
  rw [List.pairwise_reverse]
  exact fold_sorted c M tr tot S [] hS (by simp) (by simpa using hn) .nil
theorem insSort_no (v f : Value) (n : Nat) (ao : Option Addr) (cap a b : Nat) (w : World) (hv : v = .slice ao n cap) (hab : b ≤ a) (ha : a ≤ 1000) (gf : Nat) (lb : Array Value) (hf : f = .func (.func gf) #[] lb) :
    Calls Tryz.prog 258 #[v, .int .i64 a, .int .i64 b, f] w fun e w' => e = .returned (.tuple #[]) ∧ w = w' := by
  subst hv hf
  have d : decide (((a : Int) + 1) < (b : Int)) = false := by rw [decide_eq_false_iff_not]; omega
  go_enter Tryz.func258, Tryz.ntmps258
  go_wp2
  refine wp_loop_rounds 1 ?_
  repeat (rw [rounds_succ]; go_wp2)
  exact bodyPost_end (results_none rfl _ _ _) rfl ⟨rfl, rfl⟩
set_option maxRecDepth 100000 in
set_option maxHeartbeats 4000000 in
theorem stable20 (f : Value) (c : Int → Int → Int) (P : Int → Prop) (v : Value) (l : List Int) (w : World) (gi : Nat) (hl : l.length ≤ 20) (h : IS w v l) (hP : ∀ x ∈ l, P x) (hf : Cmps w f gi c P) (hgi : ∀ g, v.ownBlock = some g → g = gi) :
    Calls Tryz.prog 250 #[v, .int .i64 l.length, f] w fun e w' => e = .returned (.tuple #[]) ∧ IS w' v (sortS c l) ∧ Tch (fun k => v.ownBlock = some k) w w' := by
  rcases h.form with ⟨rfl, rfl⟩ | ⟨g, cap, rfl⟩
  · obtain ⟨gf, lb, rfl, _⟩ := hf
    have HN := Lib.hid (insSort_no (.slice none 0 0) (.func (.func gf) #[] lb) 0 none 0 0 0 w rfl (Nat.le_refl _) (by omega) gf lb rfl)
    clear hP hgi hl
    have H := Lib.hid h
    clear h
    go_enter Tryz.func250, Tryz.ntmps250
    go_wp2
    refine wp_loop_rounds 1 ?_
    rw [rounds_succ]
    go_wp2_with (go_at_call 258; refine HN.out.mono ?_; rintro e w1 ⟨rfl, rfl⟩)
    refine wp_loop_rounds 1 ?_
    repeat (rw [rounds_succ]; go_wp2)
    exact bodyPost_end (results_none rfl _ _ _) rfl ⟨rfl, H.out, Tch.refl _ _⟩
  · obtain rfl := hgi g rfl
    by_cases hn : l.length = 20
    · have h1 := insSort f c P g cap l 0 20 w (by omega) (by omega) (by omega) h hP hf
      rw [srt_part c l 0 20 (by omega) (by omega)] at h1
      rw [show l.take 0 ++ sortS c ((l.drop 0).take (20 - 0)) ++ l.drop 20 = sortS c l by
        rw [List.take_zero, List.drop_zero, List.nil_append, List.drop_of_length_le (by omega), List.append_nil, show 20 - 0 = l.length by omega, List.take_length]] at h1
      obtain ⟨gf, lb, rfl, _⟩ := hf
      rw [hn] at h1 ⊢
      have HS := Lib.hid h1
      have HN := Lib.hid (fun w1 => insSort_no (.slice (some ⟨g, 0, none⟩) 20 cap) (.func (.func gf) #[] lb) 20 (some ⟨g, 0, none⟩) cap 20 20 w1 rfl (Nat.le_refl _) (by omega) gf lb rfl)
      clear h1 h hP hn hl hgi
      go_enter Tryz.func250, Tryz.ntmps250
      go_wp2
      refine wp_loop_rounds 2 ?_
      rw [rounds_succ]
      go_wp2_with (go_at_call 258; refine HS.out.mono ?_; rintro e w1 ⟨rfl, hI, hT⟩)
      have HI := Lib.hid (And.intro hI hT)
      clear hI hT
      rw [rounds_succ]
      go_wp2_with (go_at_call 258; refine (HN.out _).mono ?_; rintro e w2 ⟨rfl, rfl⟩)
      refine wp_loop_rounds 1 ?_
      repeat (rw [rounds_succ]; go_wp2)
      exact bodyPost_end (results_none rfl _ _ _) rfl ⟨rfl, HI.out.1, HI.out.2.mono fun i _ e => by rw [e]; rfl⟩
    · have h1 := insSort f c P g cap l 0 l.length w (by omega) (by omega) (Nat.le_refl _) h hP hf
      rw [srt_part c l 0 l.length (by omega) (Nat.le_refl _)] at h1
      rw [show l.take 0 ++ sortS c ((l.drop 0).take (l.length - 0)) ++ l.drop l.length = sortS c l by
        rw [List.take_zero, List.drop_zero, List.nil_append, List.drop_length, List.append_nil, Nat.sub_zero, List.take_length]] at h1
      obtain ⟨gf, lb, rfl, _⟩ := hf
      have d1 : decide ((20 : Int) ≤ (l.length : Int)) = false := by rw [decide_eq_false_iff_not]; omega
      have d2 : decide ((20 : Int) < (l.length : Int)) = false := by rw [decide_eq_false_iff_not]; omega
      have HS := Lib.hid h1
      clear h1 h hP hn hl hgi
      generalize l.length = n at *
      go_enter Tryz.func250, Tryz.ntmps250
      go_wp2
      refine wp_loop_rounds 1 ?_
      rw [rounds_succ]
      go_wp2_with (go_at_call 258; refine HS.out.mono ?_; rintro e w1 ⟨rfl, hI, hT⟩)
      have HI := Lib.hid (And.intro hI hT)
      clear hI hT
      refine wp_loop_rounds 1 ?_
      repeat (rw [rounds_succ]; go_wp2)
      exact bodyPost_end (results_none rfl _ _ _) rfl ⟨rfl, HI.out.1, HI.out.2.mono fun i _ e => by rw [e]; rfl⟩
theorem stableF20 (f : Value) (c : Int → Int → Int) (P : Int → Prop) (v : Value) (l : List Int) (w : World) (gi : Nat) (hl : l.length ≤ 20) (h : IS w v l) (hP : ∀ x ∈ l, P x) (hf : Cmps w f gi c P) (hgi : ∀ g, v.ownBlock = some g → g = gi) :
    Calls Tryz.prog 236 #[v, f] w fun e w' => e = .returned (.tuple #[]) ∧ IS w' v (sortS c l) ∧ Tch (fun k => v.ownBlock = some k) w w' := by
  have HS := Lib.hid (stable20 f c P v l w gi hl h hP hf hgi)
  obtain ⟨ao, cap, rfl, _⟩ := h.box
  obtain ⟨gf, lb, rfl, _⟩ := hf
  clear h hP hgi hl
  go_enter Tryz.func236, Tryz.ntmps236
  go_wp2_with (go_at_call 250; refine HS.out.mono ?_; rintro e w1 ⟨rfl, hI, hT⟩)
  exact bodyPost_end (results_none rfl _ _ _) rfl ⟨rfl, hI, hT⟩
end Go.Proofs.YtpffldfpabglbaaGreatDoor
end
