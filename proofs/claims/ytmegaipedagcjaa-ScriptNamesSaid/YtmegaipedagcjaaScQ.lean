
/- Each and its iterator. -/
import Derived.Test.YtmegaipedagcjaaScP
import Derived.Test.YtmegaipedagcjaaScM
import Derived.Lib.Strings
namespace Go.Proofs.Ytmegaipedagcjaa
open Go.RowKit Go.Shelf
set_option linter.unusedVariables false      -- a contract need not use every name
attribute [local go_sem] Oper.semAt_some

def strLen : Value → Nat
  | .string s => s.size
  | _ => 0
theorem strLen_st (l : List UInt8) : strLen (stV l) = l.length := by simp [strLen, Lib.size_eq]
theorem each_any (l : List UInt8) (w : World) : Calls Try.prog 17 #[stV l] w fun e w' =>
    e = .returned (.func (.func 37) #[] #[.pointer (some ⟨w.heap.size, 0, none⟩)]) ∧ w' = w.alloc (.cells #[stV l] 9) := by
  go_enter Try.func17, Try.ntmps17
  go_wp2
  go_ret
  exact ⟨rfl, rfl⟩
theorem chunks_take (l : List UInt8) (k : Nat) (hk : k < l.length / 8) : (chunks l).take (k + 1) = (chunks l).take k ++ [(l.drop (8 * k)).take 8] := by
  have hl : k < (chunks l).length := by simp [chunks]; exact hk
  rw [List.take_succ_eq_append_getElem hl]
  congr 1
  simp [chunks]
theorem chunks_all (l : List UInt8) : (chunks l).take (l.length / 8) = chunks l := by
  apply List.take_of_length_le
  simp [chunks]
set_option maxRecDepth 100000 in
set_option maxHeartbeats 4000000 in
theorem each1_in (n : Nat) (hn : 3 ≤ n) (pc : Nat) (l : List UInt8) (w : World) (hpc : w.cell? ⟨pc, 0, none⟩ = some (stV l)) (hsm : l.length ≤ 1000000) :
    SeqR Fence.wide n Try.prog 37 #[.pointer (some ⟨pc, 0, none⟩)] (chunks l) w := by
  intro L J Jx W hW hY h0
  have h1 : 1 ≤ n := by omega
  have hcW : W.cell? ⟨pc, 0, none⟩ = some (stV l) := (hW.cell (World.block_lt_of_cell? _ _ hpc)).trans hpc
  have HY := Lib.hid hY
  have H0 := Lib.hid h0
  clear hpc hW hY h0
  refine callsIn_of_wp Try.func37 rfl trivial ?_ rfl
  simp only [Try.ntmps37, List.size_toArray, List.length_cons, List.length_nil, Nat.reduceAdd, Nat.reduceSub, Array.replicate_succ, Array.replicate_zero, List.push_toArray, List.append_toArray, List.nil_append, List.cons_append]
  gi_wp2
  gi_loopw [3] (fun v wr => ∃ k : Nat, k ≤ l.length / 8 ∧ v = stV (l.drop (8 * k)) ∧ Hid (J ((chunks l).take k) wr)) (fun v _ => strLen v)
  case atStart => exact ⟨0, Nat.zero_le _, by simp, by simpa using H0⟩
  case round =>
    obtain ⟨k, hk, rfl, HJ⟩ := hrel
    have hml : (l.drop (8 * k)).length = l.length - 8 * k := List.length_drop
    by_cases hlt : k < l.length / 8
    · have hct := chunks_take l k hlt
      have hpre : (chunks l).take k ++ [(l.drop (8 * k)).take 8] <+: chunks l := by rw [← hct]; exact List.take_prefix _ _
      obtain ⟨fn, tmps, assign, body, hy, hR⟩ := HY.out _ _ wr HJ.out hpre
      have hx : (⟨(l.drop (8 * k)).toArray⟩ : ByteArray).extract 0 8 = ⟨((l.drop (8 * k)).take 8).toArray⟩ := by rw [Lib.extract_eq]; simp
      have hz : (⟨(l.drop (8 * k)).toArray⟩ : ByteArray).extract 8 (l.length - 8 * k) = ⟨(l.drop (8 * (k + 1))).toArray⟩ := by
        rw [Lib.extract_eq]
        simp only [List.drop_drop]
        rw [List.take_of_length_le (by rw [List.length_drop]; omega), show 8 * k + 8 = 8 * (k + 1) by omega]
      have hge : decide ((8 : Int) ≤ ((l.length - 8 * k : Nat) : Int)) = true := by simp; omega
      have HT := Lib.hid hct
      clear hct hpre
      gi_wp2
      refine hR.mono ?_
      rintro e w2 (⟨rfl, j2⟩ | ⟨rfl, jx2⟩)
      · have H2 := Lib.hid j2
        clear j2 hy hR
        gi_wp2
        go_roundw
        case rel => exact ⟨k + 1, by omega, rfl, by rw [HT.out]; exact H2⟩
        case measure =>
          show strLen (stV _) < strLen (stV _)
          rw [strLen_st, strLen_st, List.length_drop, List.length_drop]; omega
      · have H2 := Lib.hid jx2
        clear jx2 hy hR
        gi_wp2
        refine bodyPost_ret (results_none rfl _ _ _) rfl ?_
        exact ⟨⟨_, rfl⟩, .inr ⟨(chunks l).take (k + 1), List.take_prefix _ _, by rw [HT.out]; exact H2.out⟩⟩
    · have hk2 : k = l.length / 8 := by omega
      subst hk2
      have HZ := Lib.hid (chunks_all l)
      gi_wp2
      go_end0
      exact ⟨⟨_, rfl⟩, .inl (by rw [← HZ.out]; exact HJ.out)⟩
end Go.Proofs.Ytmegaipedagcjaa
