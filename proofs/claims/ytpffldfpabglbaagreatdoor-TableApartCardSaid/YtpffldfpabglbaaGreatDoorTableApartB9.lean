/- Texts merged: RefA, BkS, BkT, BkU, QuK, QuL -/
import Derived.Test.YtpffldfpabglbaaGreatDoorTableApartB8

/- Contracts of the reference's functions on names, first part: Database, Level, Check, Table, Record, Parent, Ancestors, Compare. -/
section
namespace Go.Proofs.YtpffldfpabglbaaGreatDoor
open Go.ChangeShapes Go.WideShapes Go.ChangeAt Go.RowKit

theorem refDatabase_any (w : World) :
    Calls Tryz.prog 133 #[] w fun e w' => e = .returned (.agg #[.int .i64 (-1), .int .i64 (-1)]) ∧ Nw w w' := by
  go_enter Tryz.func133, Tryz.ntmps133
  go_wp2
  exact bodyPost_ret (v := .agg #[.int .i64 (-1), .int .i64 (-1)]) (by simp [results, Tryz.results133, go_sem]) rfl ⟨rfl, (Nw.refl _).alloc _⟩
theorem refLevel_db (w : World) :
    Calls Tryz.prog 92 #[.agg #[.int .i64 (-1), .int .i64 (-1)]] w fun e w' => e = .returned (.int .i64 (0)) ∧ Nw w w' := by
  go_enter Tryz.func92, Tryz.ntmps92
  go_wp2
  go_region_held3 (fun w' => w'.cell? ⟨w.heap.size, 0, none⟩ = some (.int .i64 (-1)) ∧ w'.cell? ⟨w.heap.size, 1, none⟩ = some (.int .i64 (-1)) ∧ (w.heap.size < w'.heap.size ∧ Nw w w')) (first | exact box_start _ _ _ _ | exact box_step (by assumption) (by assumption))
    (first | (go_at_call 133; refine (refDatabase_any _).mono ?_; rintro e w' ⟨rfl, hg⟩))
  all_goals
    rename_i hS
    obtain ⟨hc0, hc1, _, hG⟩ := hS
    clear hg
    go_wp2
    go_ret
    exact ⟨rfl, hG⟩
theorem refLevel_tab (t : Int) (w : World) (h0 : 0 ≤ t) (h1 : t < 100) :
    Calls Tryz.prog 92 #[.agg #[.int .i64 t, .int .i64 (-1)]] w fun e w' => e = .returned (.int .i64 (1)) ∧ Nw w w' := by
  have e0 : (t == -1) = false := by simp; omega
  go_enter Tryz.func92, Tryz.ntmps92
  go_wp2
  go_region_held3 (fun w' => w'.cell? ⟨w.heap.size, 0, none⟩ = some (.int .i64 t) ∧ w'.cell? ⟨w.heap.size, 1, none⟩ = some (.int .i64 (-1)) ∧ (w.heap.size < w'.heap.size ∧ Nw w w')) (first | exact box_start _ _ _ _ | exact box_step (by assumption) (by assumption))
    (first | (go_at_call 133; refine (refDatabase_any _).mono ?_; rintro e w' ⟨rfl, hg⟩))
  all_goals
    rename_i hS
    obtain ⟨hc0, hc1, _, hG⟩ := hS
    clear hg
    go_wp2
    go_ret
    exact ⟨rfl, hG⟩
theorem refLevel_rec (t r : Int) (w : World) (h0 : 0 ≤ t) (h1 : t < 100) (h2 : 0 ≤ r) (h3 : r < 100) :
    Calls Tryz.prog 92 #[.agg #[.int .i64 t, .int .i64 r]] w fun e w' => e = .returned (.int .i64 (2)) ∧ Nw w w' := by
  have e0 : (t == -1) = false := by simp; omega
  have e1 : (r == -1) = false := by simp; omega
  have d2 : decide (r < -1) = false := by simp; omega
  go_enter Tryz.func92, Tryz.ntmps92
  go_wp2
  go_region_held3 (fun w' => w'.cell? ⟨w.heap.size, 0, none⟩ = some (.int .i64 t) ∧ w'.cell? ⟨w.heap.size, 1, none⟩ = some (.int .i64 r) ∧ (w.heap.size < w'.heap.size ∧ Nw w w')) (first | exact box_start _ _ _ _ | exact box_step (by assumption) (by assumption))
    (first | (go_at_call 133; refine (refDatabase_any _).mono ?_; rintro e w' ⟨rfl, hg⟩))
  all_goals
    rename_i hS
    obtain ⟨hc0, hc1, _, hG⟩ := hS
    clear hg
    go_wp2
    go_ret
    exact ⟨rfl, hG⟩
theorem refLevel_b1 (r : Int) (w : World) (h : r < -1 ∨ -1 < r) :
    Calls Tryz.prog 92 #[.agg #[.int .i64 (-1), .int .i64 r]] w fun e w' => e = .returned (.int .i64 (-1)) ∧ Nw w w' := by
  have e1 : (r == -1) = false := by simp; omega
  go_enter Tryz.func92, Tryz.ntmps92
  go_wp2
  go_region_held3 (fun w' => w'.cell? ⟨w.heap.size, 0, none⟩ = some (.int .i64 (-1)) ∧ w'.cell? ⟨w.heap.size, 1, none⟩ = some (.int .i64 r) ∧ (w.heap.size < w'.heap.size ∧ Nw w w')) (first | exact box_start _ _ _ _ | exact box_step (by assumption) (by assumption))
    (first | (go_at_call 133; refine (refDatabase_any _).mono ?_; rintro e w' ⟨rfl, hg⟩))
  all_goals
    rename_i hS
    obtain ⟨hc0, hc1, _, hG⟩ := hS
    clear hg
    go_wp2
    go_ret
    exact ⟨rfl, hG⟩
theorem refLevel_b2 (t r : Int) (w : World) (h : t < -1) :
    Calls Tryz.prog 92 #[.agg #[.int .i64 t, .int .i64 r]] w fun e w' => e = .returned (.int .i64 (-1)) ∧ Nw w w' := by
  have e0 : (t == -1) = false := by simp; omega
  have d0 : decide (t < 0) = true := by simp; omega
  go_enter Tryz.func92, Tryz.ntmps92
  go_wp2
  go_region_held3 (fun w' => w'.cell? ⟨w.heap.size, 0, none⟩ = some (.int .i64 t) ∧ w'.cell? ⟨w.heap.size, 1, none⟩ = some (.int .i64 r) ∧ (w.heap.size < w'.heap.size ∧ Nw w w')) (first | exact box_start _ _ _ _ | exact box_step (by assumption) (by assumption))
    (first | (go_at_call 133; refine (refDatabase_any _).mono ?_; rintro e w' ⟨rfl, hg⟩))
  all_goals
    rename_i hS
    obtain ⟨hc0, hc1, _, hG⟩ := hS
    clear hg
    go_wp2
    go_ret
    exact ⟨rfl, hG⟩
theorem refLevel_b3 (t r : Int) (w : World) (h : 100 ≤ t) :
    Calls Tryz.prog 92 #[.agg #[.int .i64 t, .int .i64 r]] w fun e w' => e = .returned (.int .i64 (-1)) ∧ Nw w w' := by
  have e0 : (t == -1) = false := by simp; omega
  have h0 : 0 ≤ t := by omega
  have d1 : decide (t < 100) = false := by simp; omega
  go_enter Tryz.func92, Tryz.ntmps92
  go_wp2
  go_region_held3 (fun w' => w'.cell? ⟨w.heap.size, 0, none⟩ = some (.int .i64 t) ∧ w'.cell? ⟨w.heap.size, 1, none⟩ = some (.int .i64 r) ∧ (w.heap.size < w'.heap.size ∧ Nw w w')) (first | exact box_start _ _ _ _ | exact box_step (by assumption) (by assumption))
    (first | (go_at_call 133; refine (refDatabase_any _).mono ?_; rintro e w' ⟨rfl, hg⟩))
  all_goals
    rename_i hS
    obtain ⟨hc0, hc1, _, hG⟩ := hS
    clear hg
    go_wp2
    go_ret
    exact ⟨rfl, hG⟩
theorem refLevel_b4 (t r : Int) (w : World) (h0 : 0 ≤ t) (h1 : t < 100) (h : r < -1) :
    Calls Tryz.prog 92 #[.agg #[.int .i64 t, .int .i64 r]] w fun e w' => e = .returned (.int .i64 (-1)) ∧ Nw w w' := by
  have e0 : (t == -1) = false := by simp; omega
  have e1 : (r == -1) = false := by simp; omega
  have d2 : decide (r < -1) = true := by simp; omega
  go_enter Tryz.func92, Tryz.ntmps92
  go_wp2
  go_region_held3 (fun w' => w'.cell? ⟨w.heap.size, 0, none⟩ = some (.int .i64 t) ∧ w'.cell? ⟨w.heap.size, 1, none⟩ = some (.int .i64 r) ∧ (w.heap.size < w'.heap.size ∧ Nw w w')) (first | exact box_start _ _ _ _ | exact box_step (by assumption) (by assumption))
    (first | (go_at_call 133; refine (refDatabase_any _).mono ?_; rintro e w' ⟨rfl, hg⟩))
  all_goals
    rename_i hS
    obtain ⟨hc0, hc1, _, hG⟩ := hS
    clear hg
    go_wp2
    go_ret
    exact ⟨rfl, hG⟩
theorem refLevel_b5 (t r : Int) (w : World) (h0 : 0 ≤ t) (h1 : t < 100) (h : 100 ≤ r) :
    Calls Tryz.prog 92 #[.agg #[.int .i64 t, .int .i64 r]] w fun e w' => e = .returned (.int .i64 (-1)) ∧ Nw w w' := by
  have e0 : (t == -1) = false := by simp; omega
  have e1 : (r == -1) = false := by simp; omega
  have d2 : decide (r < -1) = false := by simp; omega
  have d3 : decide (r < 100) = false := by simp; omega
  go_enter Tryz.func92, Tryz.ntmps92
  go_wp2
  go_region_held3 (fun w' => w'.cell? ⟨w.heap.size, 0, none⟩ = some (.int .i64 t) ∧ w'.cell? ⟨w.heap.size, 1, none⟩ = some (.int .i64 r) ∧ (w.heap.size < w'.heap.size ∧ Nw w w')) (first | exact box_start _ _ _ _ | exact box_step (by assumption) (by assumption))
    (first | (go_at_call 133; refine (refDatabase_any _).mono ?_; rintro e w' ⟨rfl, hg⟩))
  all_goals
    rename_i hS
    obtain ⟨hc0, hc1, _, hG⟩ := hS
    clear hg
    go_wp2
    go_ret
    exact ⟨rfl, hG⟩
theorem refLevel_any (t r : Int) (w : World) :
    Calls Tryz.prog 92 #[.agg #[.int .i64 t, .int .i64 r]] w fun e w' => e = .returned (.int .i64 (lvl t r)) ∧ Nw w w' := by
  by_cases h1 : t = -1
  · subst h1
    by_cases h2 : r = -1
    · subst h2; exact refLevel_db w
    · have e : lvl (-1) r = -1 := by unfold lvl; rw [if_neg (by omega), if_neg (by omega)]
      rw [e]; exact refLevel_b1 r w (by omega)
  · by_cases h3 : 0 ≤ t ∧ t < 100
    · obtain ⟨h3, h4⟩ := h3
      by_cases h2 : r = -1
      · subst h2; rw [lvl_tab t h3 h4]; exact refLevel_tab t w h3 h4
      · by_cases h5 : 0 ≤ r ∧ r < 100
        · rw [lvl_rec t r h3 h4 h5.1 h5.2]; exact refLevel_rec t r w h3 h4 h5.1 h5.2
        · have e : lvl t r = -1 := by unfold lvl; rw [if_neg (by omega), if_pos ⟨h3, h4⟩, if_neg h2, if_neg h5]
          rw [e]
          by_cases h6 : r < -1
          · exact refLevel_b4 t r w h3 h4 h6
          · exact refLevel_b5 t r w h3 h4 (by omega)
    · have e : lvl t r = -1 := by unfold lvl; rw [if_neg (by omega), if_neg h3]
      rw [e]
      by_cases h6 : t < -1
      · exact refLevel_b2 t r w h6
      · exact refLevel_b3 t r w (by omega)
theorem refLevel_val (t r L : Int) (w : World) (h : lvl t r = L) :
    Calls Tryz.prog 92 #[.agg #[.int .i64 t, .int .i64 r]] w fun e w' => e = .returned (.int .i64 L) ∧ Nw w w' := by
  subst h; exact refLevel_any t r w
theorem lvl_ge (t r : Int) (h : lvl t r ≠ -1) : 0 ≤ lvl t r := by
  rcases kinds t r with ⟨rfl, rfl⟩ | ⟨h0, h1, rfl⟩ | ⟨h0, h1, h2, h3⟩ | h0
  · rw [lvl_db]; decide
  · rw [lvl_tab t h0 h1]; decide
  · rw [lvl_rec t r h0 h1 h2 h3]; decide
  · exact absurd h0 h
theorem refCheck_ok (t r : Int) (w : World) (h : lvl t r ≠ -1) :
    Calls Tryz.prog 37 #[.agg #[.int .i64 t, .int .i64 r]] w fun e w' => e = .returned (.int .i64 0) ∧ Nw w w' := by
  have hL := lvl_ge t r h
  have H := refLevel_any t r
  generalize lvl t r = L at *
  have H2 := Lib.hid H
  clear H h
  go_enter Tryz.func37, Tryz.ntmps37
  go_wp2_with (go_at_call 92; refine (H2.out _).mono ?_; rintro e w' ⟨rfl, hg⟩)
  go_ret
  exact ⟨rfl, ((Nw.refl _).alloc _).trans hg⟩
theorem refCheck_no (t r : Int) (w : World) (h : lvl t r = -1) :
    Calls Tryz.prog 37 #[.agg #[.int .i64 t, .int .i64 r]] w fun e w' => e = .returned (.int .i64 2) ∧ Nw w w' := by
  have H2 := Lib.hid h
  clear h
  go_enter Tryz.func37, Tryz.ntmps37
  go_wp2_with (go_at_call 92; refine (refLevel_val _ _ _ _ H2.out).mono ?_; rintro e w' ⟨rfl, hg⟩)
  go_ret
  exact ⟨rfl, ((Nw.refl _).alloc _).trans hg⟩
end Go.Proofs.YtpffldfpabglbaaGreatDoor
end

/- The document's own bucket: New, place, Find. -/
section
namespace Go.Proofs.YtpffldfpabglbaaGreatDoor
open Go.RowKit
set_option linter.unusedVariables false      -- a contract need not use every name

/-- Where a name's head is, or would be. -/
def PlIs (l : List Hm) (nm : Int × Int) (k : Nat) (b : Bool) : Prop := k ≤ l.length ∧ (∀ j (hj : j < l.length), j < k → nlt (nmH l[j].h) nm) ∧ ((k = l.length ∧ b = false) ∨ ∃ hk : k < l.length, ¬ nlt (nmH l[k].h) nm ∧ b = decide (nmH l[k].h = nm))
end Go.Proofs.YtpffldfpabglbaaGreatDoor
end

/- The document's own bucket: where a head is, in plain words; Find. -/
section
namespace Go.Proofs.YtpffldfpabglbaaGreatDoor
open Go.RowKit
set_option linter.unusedVariables false      -- a contract need not use every name

abbrev hsOf (l : List Hm) : List Hq := l.map Hm.h
theorem srt_at {l : List Hm} (s : SrtH (hsOf l)) {i j : Nat} (hi : i < l.length) (hj : j < l.length) (h : i < j) : nlt (nmH l[i].h) (nmH l[j].h) := by
  have := List.pairwise_iff_getElem.1 s i j (by simpa using hi) (by simpa using hj) h
  simpa using this
theorem PlIs.get {l : List Hm} {nm : Int × Int} {k : Nat} {b : Bool} (p : PlIs l nm k b) (s : SrtH (hsOf l)) :
    (b = false ∧ getH (hsOf l) nm = none ∧ (∀ j (hj : j < l.length), k ≤ j → nlt nm (nmH l[j].h))) ∨ (b = true ∧ ∃ hk : k < l.length, nmH l[k].h = nm ∧ getH (hsOf l) nm = some l[k].h) := by
  obtain ⟨hk, hb, he⟩ := p
  have key : b = false → (∀ j (hj : j < l.length), k ≤ j → nlt nm (nmH l[j].h)) → getH (hsOf l) nm = none := by
    intro _ ha
    refine List.find?_eq_none.2 fun x hx => ?_
    obtain ⟨j, hj, rfl⟩ := List.getElem_of_mem hx
    have hj' : j < l.length := by simpa using hj
    simp only [List.getElem_map, decide_eq_true_eq]
    intro e
    by_cases q : j < k
    · have := hb j hj' q; rw [e] at this; exact nlt_irr _ this
    · have := ha j hj' (by omega); rw [e] at this; exact nlt_irr _ this
  rcases he with ⟨rfl, rfl⟩ | ⟨hk2, hn, rfl⟩
  · have ha : ∀ j (hj : j < l.length), l.length ≤ j → nlt nm (nmH l[j].h) := fun j hj q => by omega
    exact .inl ⟨rfl, key rfl ha, ha⟩
  · by_cases e : nmH l[k].h = nm
    · refine .inr ⟨by simpa using e, hk2, e, ?_⟩
      cases hg : getH (hsOf l) nm with
      | none => exact absurd e (get_none hg _ (List.mem_map.2 ⟨_, List.getElem_mem hk2, rfl⟩))
      | some h =>
        obtain ⟨h1, h2⟩ := get_some hg
        rw [srt_inj s h1 (List.mem_map.2 ⟨_, List.getElem_mem hk2, rfl⟩) (h2.trans e.symm)]
    · have h0 : nlt nm (nmH l[k].h) := by
        rcases nlt_tot (nmH l[k].h) nm with q | q | q
        · exact absurd q hn
        · exact absurd q e
        · exact q
      have ha : ∀ j (hj : j < l.length), k ≤ j → nlt nm (nmH l[j].h) := fun j hj q => by
        rcases Nat.lt_or_eq_of_le q with q | rfl
        · exact nlt_tr h0 (srt_at s hk2 hj q)
        · exact h0
      exact .inl ⟨by simpa using e, key (by simpa using e) ha, ha⟩
theorem OfIs.of {l : List Hm} {id i : Int} (h : OfIs l id i) : (i = -1 ∧ ofId (hsOf l) id = none) ∨ ∃ k : Nat, i = k ∧ ∃ hk : k < l.length, ofId (hsOf l) id = some l[k].h := by
  rcases h with ⟨rfl, h⟩ | ⟨k, rfl, hk, h1, h2⟩
  · refine .inl ⟨rfl, List.find?_eq_none.2 fun x hx => ?_⟩
    obtain ⟨y, hy, rfl⟩ := List.mem_map.1 hx
    rw [h y hy]; simp
  · refine .inr ⟨k, rfl, hk, ?_⟩
    unfold ofId
    rw [List.find?_eq_some_iff_getElem]
    refine ⟨h1, k, by simpa using hk, by simp, fun j hj => ?_⟩
    simp only [List.getElem_map]
    rw [h2 j (by omega) hj]
    rfl
end Go.Proofs.YtpffldfpabglbaaGreatDoor
end

/- The document's own bucket: Get, New. -/
section
namespace Go.Proofs.YtpffldfpabglbaaGreatDoor
open Go.RowKit
set_option linter.unusedVariables false      -- a contract need not use every name

end Go.Proofs.YtpffldfpabglbaaGreatDoor
end

/- The document's own queue: Abandon, Hand. -/
section
namespace Go.Proofs.YtpffldfpabglbaaGreatDoor
open Go.RowKit
set_option linter.unusedVariables false      -- a contract need not use every name

theorem set_in {A M B : List Value} {j : Nat} (hj : j < M.length) (u : Value) : (A ++ (M ++ B)).set (A.length + j) u = A ++ (M.set j u ++ B) := by
  rw [List.set_append_right _ _ (by omega), Nat.add_sub_cancel_left, List.set_append_left _ _ hj]
theorem rows_mid (q : List Rq) (k : Nat) (hk : k < q.length) : rowsOf rqrow q = rowsOf rqrow (q.take k) ++ (rqrow q[k] ++ rowsOf rqrow (q.drop (k + 1))) := by
  have e : q = q.take k ++ q[k] :: q.drop (k + 1) := by rw [← List.drop_eq_getElem_cons hk, List.take_append_drop]
  conv => lhs; rw [e]
  rw [rows_app]
  rfl
theorem rows_upd (q : List Rq) (k : Nat) (hk : k < q.length) (j : Nat) (hj : j < 5) (u : Value) (new : Rq) (e : (rqrow q[k]).set j u = rqrow new) : (rowsOf rqrow q).set (k * 5 + j) u = rowsOf rqrow (q.set k new) := by
  have hA : (rowsOf rqrow (q.take k)).length = k * 5 := by rw [rows_len (sz := 5) (fun _ => rfl), List.length_take, Nat.min_eq_left (Nat.le_of_lt hk)]
  have h2 := rows_mid (q.set k new) k (by rw [List.length_set]; exact hk)
  rw [List.take_set_of_le (Nat.le_refl k), List.drop_set_of_lt (Nat.lt_succ_self k), List.getElem_set_self] at h2
  rw [rows_mid q k hk, h2, ← hA, set_in (by exact hj) u, e]
theorem own_upd {w : World} {g0 g cap n : Nat} {q : List Rq} (h : RqOwn w g0 (.slice (some ⟨g, 0, none⟩) n cap) q) (hn : n = q.length) (k : Nat) (hk : k < q.length) (j : Nat) (hj : j < 5) (u : Value) (new : Rq) (e : (rqrow q[k]).set j u = rqrow new) :
    RqOwn (w.setCell ⟨g, k * 5 + j, none⟩ u) g0 (.slice (some ⟨g, 0, none⟩) n cap) (q.set k new) := by
  subst hn
  have h1 := (World.ownsRow.stored h (k * 5 + j) u).1
  unfold RqOwn Own
  rw [List.length_set, ← rows_upd q k hk j hj u new e]
  exact h1
theorem own_cell {w : World} {g0 g cap n : Nat} {q : List Rq} (h : RqOwn w g0 (.slice (some ⟨g, 0, none⟩) n cap) q) (hn : n = q.length) (k : Nat) (hk : k < q.length) (j : Nat) (u : Value) (hu : (rqrow q[k])[j]? = some u) : w.cell? ⟨g, k * 5 + j, none⟩ = some u := by
  subst hn
  have hj : j < 5 := by have := (List.getElem?_eq_some_iff.1 hu).1; simpa [rqrow] using this
  refine (World.ownsRow.cellAt h (k * 5 + j) (by omega)).trans ?_
  rw [rows_at' (sz := 5) (fun _ => rfl) q k j hk hj]; exact hu
theorem own_frz {w : World} {g0 g cap n : Nat} {q : List Rq} (h : RqOwn w g0 (.slice (some ⟨g, 0, none⟩) n cap) q) (hn : n = q.length) (j : Nat) : w.frozen? ⟨g, j, none⟩ = false := by
  subst hn
  exact World.ownsRow.frozenAt h j
end Go.Proofs.YtpffldfpabglbaaGreatDoor
end

/- The document's own queue: Hand. -/
section
namespace Go.Proofs.YtpffldfpabglbaaGreatDoor
open Go.RowKit
set_option linter.unusedVariables false      -- a contract need not use every name

end Go.Proofs.YtpffldfpabglbaaGreatDoor
end
