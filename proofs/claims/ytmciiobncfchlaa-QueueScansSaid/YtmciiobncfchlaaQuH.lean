
/- Plain facts of queues of requests: calls followed by scans: what holds between them. -/
import Derived.Test.YtmciiobncfchlaaQuP
namespace Go.Proofs.Ytmciiobncfchlaa
set_option linter.unusedVariables false

def scH (h : Hq) : Hq := ⟨h.t, h.r, h.W, (scanQ h.q).2⟩
/-- A call by its number. -/
def actR (h : Hq) (k id txn m : Int) : Hq × Int := if k = 0 then ((askR h id txn m).1, (askR h id txn m).2.2) else if k = 1 then ((upR h id m).1, (upR h id m).2.2) else if k = 2 then lvR h id else abRes h id
def doQ (h : Hq) (k id txn m : Int) : Hq := if (actR h k id txn m).2 = 0 then scH (actR h k id txn m).1 else h
theorem askQ_W (W : Int) (q : List Rq) (id txn m : Int) : W ≤ (askQ W q id txn m).1 ∧ (askQ W q id txn m).1 ≤ W + 1 ∧ (askQ W q id txn m).2.1.length = q.length + 1 := by
  unfold askQ
  split
  · exact ⟨by simp, by show W ≤ W + 1; omega, by simp⟩
  · exact ⟨by show W ≤ W + 1; omega, by simp, by simp⟩
theorem chg_len (f : Rq → Rq) (id : Int) (q : List Rq) : (chg f id q).length = q.length := by simp [chg]
theorem upQ_W (W : Int) (q : List Rq) (r : Rq) (m : Int) : W ≤ (upQ W q r m).1 ∧ (upQ W q r m).1 ≤ W + 1 ∧ (upQ W q r m).2.1.length = q.length := by
  unfold upQ
  split
  · exact ⟨by simp, by show W ≤ W + 1; omega, rfl⟩
  split
  · exact ⟨by simp, by show W ≤ W + 1; omega, chg_len _ _ _⟩
  · exact ⟨by show W ≤ W + 1; omega, by simp, chg_len _ _ _⟩
theorem lvQ_len (id : Int) (q : List Rq) : (lvQ id q).length ≤ q.length := List.length_filter_le _ _
theorem abQ_len (r : Rq) (q : List Rq) : (abQ r q).length ≤ q.length := by
  unfold abQ
  split
  · exact lvQ_len _ _
  · rw [chg_len]; exact Nat.le_refl _
theorem act_ok (h : Hq) (h0 : Ok h.W h.q) (hB : h.W + 1 ≤ 4611686018427387904) (k id txn m : Int) (he : (actR h k id txn m).2 = 0) :
    Ok (actR h k id txn m).1.W (actR h k id txn m).1.q ∧ (actR h k id txn m).1.t = h.t ∧ (actR h k id txn m).1.r = h.r ∧ h.W ≤ (actR h k id txn m).1.W ∧ (actR h k id txn m).1.W ≤ h.W + 1 ∧ (actR h k id txn m).1.q.length ≤ h.q.length + 1 := by
  unfold actR at he ⊢
  by_cases k0 : k = 0
  · simp only [if_pos k0] at he ⊢
    unfold askR at he ⊢
    by_cases e : askE h.q id txn m = 0
    · simp only [if_pos e]
      obtain ⟨w1, w2, w3⟩ := askQ_W h.W h.q id txn m
      exact ⟨ok_ask h0 id txn m e hB, trivial, trivial, w1, w2, by omega⟩
    · simp only [if_neg e] at he
      exact absurd he e
  simp only [if_neg k0] at he ⊢
  by_cases k1 : k = 1
  · simp only [if_pos k1] at he ⊢
    unfold upR at he ⊢
    by_cases e : m = 0 ∨ knI m = false
    · simp only [if_pos e] at he; cases he
    simp only [if_neg e] at he ⊢
    cases f : fnd h.q id with
    | none => rw [f] at he; cases he
    | some r =>
      rw [f] at he
      obtain ⟨hr, _⟩ := fnd_is f
      by_cases s : 0 < r.sn
      · simp only [if_pos s] at he; cases he
      · simp only [if_neg s]
        obtain ⟨w1, w2, w3⟩ := upQ_W h.W h.q r m
        have t := (h0.rt r hr).s0
        have hm : knI m = true := by
          cases z : knI m with
          | true => rfl
          | false => exact absurd (.inr z) e
        exact ⟨ok_up h0 r hr m (by omega) hm hB, trivial, trivial, w1, w2, by omega⟩
  simp only [if_neg k1] at he ⊢
  by_cases k2 : k = 2
  · simp only [if_pos k2] at he ⊢
    unfold lvR at he ⊢
    cases f : fnd h.q id with
    | none => rw [f] at he; cases he
    | some r =>
      have := lvQ_len id h.q
      exact ⟨ok_lv h0 id, rfl, rfl, Int.le_refl _, by show h.W ≤ h.W + 1; omega, by show (lvQ id h.q).length ≤ _; omega⟩
  simp only [if_neg k2] at he ⊢
  unfold abRes at he ⊢
  cases f : fnd h.q id with
  | none => rw [f] at he; cases he
  | some r =>
    rw [f] at he
    obtain ⟨hr, _⟩ := fnd_is f
    by_cases s : 0 < r.sn
    · simp only [if_pos s]
      have := abQ_len r h.q
      exact ⟨ok_ab h0 r hr, trivial, trivial, Int.le_refl _, by show h.W ≤ h.W + 1; omega, by show (abQ r h.q).length ≤ _; omega⟩
    · simp only [if_neg s] at he; cases he
/-- What holds of a head between two calls. -/
structure HInv (h : Hq) : Prop where
  ok : Ok h.W h.q
  done : Done h.q
theorem scan_len {W : Int} {q : List Rq} (h : Ok W q) : (scanQ q).2.length = q.length := by
  rw [((scan_steps h).1.form h).1]
  simp
theorem scH_inv (h : Hq) (h0 : Ok h.W h.q) : HInv (scH h) := ⟨scan_ok h0, (scan_steps h0).2⟩
theorem do_inv (h : Hq) (h0 : HInv h) (hB : h.W + 1 ≤ 4611686018427387904) (k id txn m : Int) :
    HInv (doQ h k id txn m) ∧ (doQ h k id txn m).t = h.t ∧ (doQ h k id txn m).r = h.r ∧ h.W ≤ (doQ h k id txn m).W ∧ (doQ h k id txn m).W ≤ h.W + 1 ∧ (doQ h k id txn m).q.length ≤ h.q.length + 1 := by
  unfold doQ
  by_cases e : (actR h k id txn m).2 = 0
  · rw [if_pos e]
    obtain ⟨a, b, c, d, f, g⟩ := act_ok h h0.ok hB k id txn m e
    refine ⟨scH_inv _ a, b, c, d, f, ?_⟩
    show (scanQ _).2.length ≤ _
    rw [scan_len a]
    exact g
  · rw [if_neg e]
    exact ⟨h0, rfl, rfl, Int.le_refl _, by omega, by omega⟩
theorem inv_nil (t r : Int) : HInv ⟨t, r, 0, []⟩ := ⟨⟨Int.le_refl _, by show (0 : Int) ≤ _; omega, by simp, .nil⟩, by intro r hr; cases hr⟩
/-- After a scan who waits has blockers, and nobody else. -/
theorem inv_blk {h : Hq} (h0 : HInv h) {r : Rq} (hr : r ∈ h.q) : decide (0 < (blkR h.q r.id).length) = decide (0 < r.sn) := by
  unfold blkR
  rw [fnd_some h0.ok hr]
  by_cases s : 0 < r.sn
  · simp only [if_pos s]
    have : blkL h.q r ≠ [] := fun e => by
      have := (blkL_nil h.q r s).1 e
      rw [h0.done r hr] at this
      cases this
    have := List.length_pos_iff.2 this
    simp [s, this]
  · simp [s]
theorem cmp_zero_all : ∀ i < 7, ∀ j < 7, (cmpT 0 (Int.ofNat j) && cmpT (Int.ofNat i) 0) = true := by decide +kernel
theorem cp_zero (a : Int) (ha : knI a = true) : cpI 0 a = true := by
  have := two_kn (p := fun a b => cmpT 0 b && cmpT a 0) cmp_zero_all a a ha ha
  rw [cp_kn 0 a rfl ha]
  simp at this
  exact this.1
theorem inv_cp {W : Int} {q : List Rq} (h : Ok W q) (n k : Nat) (hn : n < k) (hk : k < q.length) : cpI q[n].md q[k].md = true := by
  have hp := List.pairwise_iff_getElem.1 h.pr n k (by omega) hk hn
  have hr := h.rt q[k] (List.getElem_mem hk)
  have hl := h.rt q[n] (List.getElem_mem (by omega))
  by_cases z : q[n].md = 0
  · rw [z]; exact cp_zero _ hr.md
  · by_cases y : q[k].md = 0
    · rw [y, cp_symm]; exact cp_zero _ hl.md
    · exact hp.cp z y
theorem cov_sup3_all : ∀ i < 7, ∀ j < 7, ∀ k < 7, (cvI (supT (Int.ofNat i) (Int.ofNat j)) (Int.ofNat j) && (!cvI (Int.ofNat i) (Int.ofNat k) || cvI (supT (Int.ofNat i) (Int.ofNat j)) (Int.ofNat k))) = true := by decide +kernel
theorem cov_sup3 (a b c : Int) (ha : knI a = true) (hb : knI b = true) (hc : knI c = true) : cvI (supT a b) b = true ∧ (cvI a c = true → cvI (supT a b) c = true) := by
  rw [knI_iff] at ha hb hc
  obtain ⟨i, rfl⟩ := Int.eq_ofNat_of_zero_le ha.1
  obtain ⟨j, rfl⟩ := Int.eq_ofNat_of_zero_le hb.1
  obtain ⟨k, rfl⟩ := Int.eq_ofNat_of_zero_le hc.1
  have := cov_sup3_all i (by omega) j (by omega) k (by omega)
  rw [Bool.and_eq_true, Bool.or_eq_true, Bool.not_eq_true'] at this
  refine ⟨this.1, fun h => this.2.resolve_left fun e => ?_⟩
  rw [show (Int.ofNat i : Int) = (i : Int) from rfl, show (Int.ofNat k : Int) = (k : Int) from rfl, h] at e
  cases e
theorem fold_cov (c : Int) (hc : knI c = true) : ∀ (l : List Int) (a : Int), knI a = true → (∀ z ∈ l, knI z = true) → knI (l.foldl supT a) = true ∧ (cvI a c = true ∨ c ∈ l → cvI (l.foldl supT a) c = true)
  | [], a, ha, _ => ⟨ha, fun h => h.resolve_right (by simp)⟩
  | b :: l, a, ha, h => by
    have hb := h b (by simp)
    obtain ⟨k1, k2⟩ := fold_cov c hc l (supT a b) (sup_kn a b ha hb) (fun z hz => h z (List.mem_cons_of_mem _ hz))
    refine ⟨k1, fun q => k2 ?_⟩
    rcases q with q | q
    · exact .inl ((cov_sup3 a b c ha hb hc).2 q)
    · rcases List.mem_cons.1 q with rfl | q
      · exact .inl (cov_sup3 a c c ha hb hc).1
      · exact .inr q
theorem grp_all {W : Int} {q : List Rq} (h : Ok W q) : ∀ z ∈ q.map (fun x => x.md), knI z = true := by
  intro z hz
  obtain ⟨x, hx, rfl⟩ := List.mem_map.1 hz
  exact (h.rt x hx).md
theorem grp_cov {W : Int} {q : List Rq} (h : Ok W q) {r : Rq} (hr : r ∈ q) : cvI (grpQ q) r.md = true := by
  unfold grpQ
  exact (fold_cov r.md (h.rt r hr).md _ 0 rfl (grp_all h)).2 (.inr (List.mem_map.2 ⟨r, hr, rfl⟩))
theorem grp_kn {W : Int} {q : List Rq} (h : Ok W q) : knI (grpQ q) = true := by
  unfold grpQ
  exact (fold_cov 0 rfl _ 0 rfl (grp_all h)).1
/-- A leave, and a scan: what became of each one that is left. -/
theorem turn_at {W : Int} {q : List Rq} (h : Ok W q) (k : Nat) (hk : k < q.length) : fnd (scanQ q).2 q[k].id = some (if (scanQ q).1.contains q[k].id = true then grtR q[k] else q[k]) := by
  have e := ((scan_steps h).1.form h).1
  have ok := scan_ok h
  have hm : (if (scanQ q).1.contains q[k].id = true then grtR q[k] else q[k]) ∈ (scanQ q).2 := by
    have hx : (if (scanQ q).1.contains q[k].id = true then grtR q[k] else q[k]) ∈ q.map (fun r => if (scanQ q).1.contains r.id = true then grtR r else r) := List.mem_map.2 ⟨q[k], List.getElem_mem hk, rfl⟩
    rwa [← e] at hx
  have := fnd_some ok hm
  rw [← this]
  congr 1
  split <;> rfl
end Go.Proofs.Ytmciiobncfchlaa
