
/- lives; LightScript. -/
import Derived.Test.YtmegaipedagcjaaScS
import Derived.Test.YtmegaipedagcjaaScT
namespace Go.Proofs.Ytmegaipedagcjaa
open Go.RowKit

theorem quietV {P : Program} {f : FuncId} {args : Array Value} {w0 : World} {l : List (Nat × Nat × Value)} {d : Wd (CV w0 l)} {v : Value}
    (h : Calls P f args d.w fun e w' => e = .returned v ∧ Nw d.w w') : Calls P f args d.w fun e w'' => e = .returned v ∧ ∃ d' : Wd (CV w0 l), w'' = d'.w :=
  quietN (fun a b h g => CV.step a b h g) h
set_option maxRecDepth 100000 in
set_option maxHeartbeats 2000000 in
theorem lives_ok (w : World) : Calls Try.prog 8 #[] w fun e w' => e = .returned (.bool true) ∧ Nw w w' := by
  have HR := Lib.hid (fun z => read_any [] z (by simp))
  go_enter Try.func8, Try.ntmps8
  go_wp2_with fail
  refine (HR.out _).mono ?_
  rintro e w1 ⟨vt, vp, rfl, hs, g1⟩
  obtain ⟨⟨at', ct, rfl, ht⟩, ap, cp', rfl, _⟩ := hs
  rcases ht with ht | ⟨b, o, rfl, ht⟩
  · exact absurd ht (by decide)
  obtain ⟨u, hu, au, cu, rfl, _⟩ := ht.2 0 (by decide)
  have hbl := ht.1
  rw [Nat.add_zero] at hu
  clear ht HR
  have e1 : (rd []).th.length = 1 := by decide
  have e2 : (rd []).pk.length = 0 := by decide
  have e3 : (rd []).cp = (4, 32, 64, 2) := by decide
  have e4 : ((rd []).th[0]'(by decide)).length = 0 := by decide
  rw [e4] at hu
  rw [e1, e2, e3]
  clear e1 e2 e3 e4
  go_wp2
  have hB : CV w [(w1.heap.size, 0, .slice (some ⟨b, o, none⟩) 1 ct), (w1.heap.size, 1, .slice ap 0 cp'), (w1.heap.size, 2, .int .i64 4), (w1.heap.size, 3, .int .i64 32), (w1.heap.size, 4, .int .i64 64), (w1.heap.size, 5, .int .i64 2), (b, o, .slice au 0 cu)] (w1.alloc (.cells #[.slice (some ⟨b, o, none⟩) 1 ct, .slice ap 0 cp', .int .i64 4, .int .i64 32, .int .i64 64, .int .i64 2] 28)).drew := by
    have hn : Nw w (w1.alloc (.cells #[.slice (some ⟨b, o, none⟩) 1 ct, .slice ap 0 cp', .int .i64 4, .int .i64 32, .int .i64 64, .int .i64 2] 28)).drew := (g1.alloc _).drew1
    repeat' (first | exact CV.nil hn | refine CV.cons ?_ ?_)
    all_goals simp [go_sem, *]
  generalize w1.heap.size = B at hB ⊢
  refine region_in (CV w [(B, 0, .slice (some ⟨b, o, none⟩) 1 ct), (B, 1, .slice ap 0 cp'), (B, 2, .int .i64 4), (B, 3, .int .i64 32), (B, 4, .int .i64 64), (B, 5, .int .i64 2), (b, o, .slice au 0 cu)]) (by kernel_rfl) (by kernel_rfl) hB ?_
  have c0 : ∀ d : Wd (CV w [(B, 0, .slice (some ⟨b, o, none⟩) 1 ct), (B, 1, .slice ap 0 cp'), (B, 2, .int .i64 4), (B, 3, .int .i64 32), (B, 4, .int .i64 64), (B, 5, .int .i64 2), (b, o, .slice au 0 cu)]), d.w.cell? ⟨B, 0, none⟩ = some (.slice (some ⟨b, o, none⟩) 1 ct) := fun d => d.h.at _ _ _ (by simp)
  have c1 : ∀ d : Wd (CV w [(B, 0, .slice (some ⟨b, o, none⟩) 1 ct), (B, 1, .slice ap 0 cp'), (B, 2, .int .i64 4), (B, 3, .int .i64 32), (B, 4, .int .i64 64), (B, 5, .int .i64 2), (b, o, .slice au 0 cu)]), d.w.cell? ⟨B, 1, none⟩ = some (.slice ap 0 cp') := fun d => d.h.at _ _ _ (by simp)
  have c2 : ∀ d : Wd (CV w [(B, 0, .slice (some ⟨b, o, none⟩) 1 ct), (B, 1, .slice ap 0 cp'), (B, 2, .int .i64 4), (B, 3, .int .i64 32), (B, 4, .int .i64 64), (B, 5, .int .i64 2), (b, o, .slice au 0 cu)]), d.w.cell? ⟨B, 2, none⟩ = some (.int .i64 4) := fun d => d.h.at _ _ _ (by simp)
  have c3 : ∀ d : Wd (CV w [(B, 0, .slice (some ⟨b, o, none⟩) 1 ct), (B, 1, .slice ap 0 cp'), (B, 2, .int .i64 4), (B, 3, .int .i64 32), (B, 4, .int .i64 64), (B, 5, .int .i64 2), (b, o, .slice au 0 cu)]), d.w.cell? ⟨B, 3, none⟩ = some (.int .i64 32) := fun d => d.h.at _ _ _ (by simp)
  have c4 : ∀ d : Wd (CV w [(B, 0, .slice (some ⟨b, o, none⟩) 1 ct), (B, 1, .slice ap 0 cp'), (B, 2, .int .i64 4), (B, 3, .int .i64 32), (B, 4, .int .i64 64), (B, 5, .int .i64 2), (b, o, .slice au 0 cu)]), d.w.cell? ⟨B, 4, none⟩ = some (.int .i64 64) := fun d => d.h.at _ _ _ (by simp)
  have c5 : ∀ d : Wd (CV w [(B, 0, .slice (some ⟨b, o, none⟩) 1 ct), (B, 1, .slice ap 0 cp'), (B, 2, .int .i64 4), (B, 3, .int .i64 32), (B, 4, .int .i64 64), (B, 5, .int .i64 2), (b, o, .slice au 0 cu)]), d.w.cell? ⟨B, 5, none⟩ = some (.int .i64 2) := fun d => d.h.at _ _ _ (by simp)
  have c6 : ∀ d : Wd (CV w [(B, 0, .slice (some ⟨b, o, none⟩) 1 ct), (B, 1, .slice ap 0 cp'), (B, 2, .int .i64 4), (B, 3, .int .i64 32), (B, 4, .int .i64 64), (B, 5, .int .i64 2), (b, o, .slice au 0 cu)]), d.w.cell? ⟨b, o, none⟩ = some (.slice au 0 cu) := fun d => d.h.at _ _ _ (by simp)
  have hne : Nonempty (Wd (CV w [(B, 0, .slice (some ⟨b, o, none⟩) 1 ct), (B, 1, .slice ap 0 cp'), (B, 2, .int .i64 4), (B, 3, .int .i64 32), (B, 4, .int .i64 64), (B, 5, .int .i64 2), (b, o, .slice au 0 cu)])) := ⟨⟨_, hB⟩⟩
  repeat (first | go_big_quiet_step (exact quietV (caps_any _)) | quiet_step (exact quietV (caps_any _)))
  refine wpQuiet_nil ?_
  intro d
  have h5 := d.h.2
  go_wp2
  go_ret
  exact ⟨rfl, h5⟩
end Go.Proofs.Ytmegaipedagcjaa
