
/- How the heap's methods are reached through the interface value. -/
import Derived.Test.YtolpccchhjcddaaTkC
import Derived.Shelf.Abstract
namespace Go.Proofs.Ytolpccchhjcddaa
open Go.RowKit Go.Shelf

theorem mt_len : ((Try.prog.info? 59).map fun i => ((i.methods.find? (·.name == "Len")).map fun m => (m.path, m.func))) = some (some (#[], some (60, false))) := by kernel_rfl
theorem mt_less : ((Try.prog.info? 59).map fun i => ((i.methods.find? (·.name == "Less")).map fun m => (m.path, m.func))) = some (some (#[], some (61, false))) := by kernel_rfl
theorem mt_swap : ((Try.prog.info? 59).map fun i => ((i.methods.find? (·.name == "Swap")).map fun m => (m.path, m.func))) = some (some (#[], some (62, false))) := by kernel_rfl
theorem mt_push : ((Try.prog.info? 59).map fun i => ((i.methods.find? (·.name == "Push")).map fun m => (m.path, m.func))) = some (some (#[], some (69, true))) := by kernel_rfl
theorem mt_pop : ((Try.prog.info? 59).map fun i => ((i.methods.find? (·.name == "Pop")).map fun m => (m.path, m.func))) = some (some (#[], some (68, true))) := by kernel_rfl

theorem wrapnil (t : TypeId) (a : Addr) (x y : String) : Builtin.ssaWrapNilChk_ #[t] t #[.pointer (some a), strVal x, strVal y] = pure (.pointer (some a)) := rfl
theorem meth_val (name : String) (f : Nat) (h : ((Try.prog.info? 59).map fun i => ((i.methods.find? (·.name == name)).map fun m => (m.path, m.func))) = some (some (#[], some (f, false))))
    (w : World) (a : Addr) (v : Value) (hc : w.cell? a = some v) (n : Nat) : Sem.run Try.prog (method (n + 1) 59 (.pointer (some a)) name) w = .ok (f, v) w := by
  obtain ⟨i, hi, h⟩ := Option.map_eq_some_iff.1 h
  obtain ⟨m, hm, h⟩ := Option.map_eq_some_iff.1 h
  simp only [Prod.mk.injEq] at h
  obtain ⟨hp, hf⟩ := h
  have hu := Try.underlying59
  have hu2 := Try.underlying55
  simp [method, typeInfo, hi, hm, hp, hf, follow, receiverAt, Place.get, wrapnil, go_sem, hc]
theorem meth_ptr (name : String) (f : Nat) (h : ((Try.prog.info? 59).map fun i => ((i.methods.find? (·.name == name)).map fun m => (m.path, m.func))) = some (some (#[], some (f, true))))
    (w : World) (v : Value) (n : Nat) : Sem.run Try.prog (method (n + 1) 59 v name) w = .ok (f, v) w := by
  obtain ⟨i, hi, h⟩ := Option.map_eq_some_iff.1 h
  obtain ⟨m, hm, h⟩ := Option.map_eq_some_iff.1 h
  simp only [Prod.mk.injEq] at h
  obtain ⟨hp, hf⟩ := h
  have hu := Try.underlying59
  simp [method, typeInfo, hi, hm, hp, hf, follow, receiverAt, Place.get, go_sem]
theorem m_len (w : World) (a : Addr) (v : Value) (hc : w.cell? a = some v) : ∀ n, Sem.run Try.prog (method (n + 1) 59 (.pointer (some a)) "Len") w = .ok (60, v) w := meth_val _ _ mt_len w a v hc
theorem m_less (w : World) (a : Addr) (v : Value) (hc : w.cell? a = some v) : ∀ n, Sem.run Try.prog (method (n + 1) 59 (.pointer (some a)) "Less") w = .ok (61, v) w := meth_val _ _ mt_less w a v hc
theorem m_swap (w : World) (a : Addr) (v : Value) (hc : w.cell? a = some v) : ∀ n, Sem.run Try.prog (method (n + 1) 59 (.pointer (some a)) "Swap") w = .ok (62, v) w := meth_val _ _ mt_swap w a v hc
theorem m_push (w : World) (v : Value) : ∀ n, Sem.run Try.prog (method (n + 1) 59 v "Push") w = .ok (69, v) w := meth_ptr _ _ mt_push w v
theorem m_pop (w : World) (v : Value) : ∀ n, Sem.run Try.prog (method (n + 1) 59 v "Pop") w = .ok (68, v) w := meth_ptr _ _ mt_pop w v
theorem e_len : ∀ args w, (callFunc 60 args).run Try.prog w = .ok (.enter 60 args) w := enters_of Try.func60 (by kernel_rfl) rfl
theorem e_less : ∀ args w, (callFunc 61 args).run Try.prog w = .ok (.enter 61 args) w := enters_of Try.func61 (by kernel_rfl) rfl
theorem e_swap : ∀ args w, (callFunc 62 args).run Try.prog w = .ok (.enter 62 args) w := enters_of Try.func62 (by kernel_rfl) rfl
theorem e_push : ∀ args w, (callFunc 69 args).run Try.prog w = .ok (.enter 69 args) w := enters_of Try.func69 (by kernel_rfl) rfl
theorem e_pop : ∀ args w, (callFunc 68 args).run Try.prog w = .ok (.enter 68 args) w := enters_of Try.func68 (by kernel_rfl) rfl
theorem len_any (a : Option Addr) (n c : Nat) (w : World) : Calls Try.prog 60 #[.slice a n c] w fun e w' => e = .returned (.int .i64 n) ∧ w = w' := by
  go_enter Try.func60, Try.ntmps60
  go_wp2
  go_ret
  exact ⟨rfl, rfl⟩
end Go.Proofs.Ytolpccchhjcddaa
