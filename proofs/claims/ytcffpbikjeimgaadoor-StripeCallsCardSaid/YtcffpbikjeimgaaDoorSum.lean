
/- The hash of a string: stripe.Sum, at strings of at most 100,000 bytes. -/
import Derived.Test.YtcffpbikjeimgaaDoorNw
import Derived.ProofKit
import Derived.OpenShut
import Derived.ShutString
import Derived.Outline
import Derived.Lib.ConvBytes
namespace Go.Proofs.YtcffpbikjeimgaaDoor
open Go.ChangeShapes Go.WideShapes Go.ChangeAt Go.RowKit

def fnv1 (h : Int) (b : UInt8) : Int := bits .xor .u32 h (b.toNat : Int) * 16777619 % 4294967296
def fnv (l : List UInt8) : Int := l.foldl fnv1 2166136261
theorem fnv_snoc (l : List UInt8) (b : UInt8) : fnv (l ++ [b]) = fnv1 (fnv l) b := by simp [fnv]
theorem bw_nw (w : World) (e : TypeId) (s : ByteArray) : Nw w (Lib.bytesWorld w e s) :=
  ⟨rfl, by simp [Lib.bytesWorld, World.freeze], rfl, by rw [Lib.bytesWorld_size]; omega, fun k hk => Lib.bytesWorld_at_old w e s k hk⟩
theorem fnv_byte (b : UInt8) : (b.toNat : Int) % 4294967296 = b.toNat := by have := b.toNat_lt; omega
theorem mul_inj (M K I Q x y : Nat) (hK : K * I = M * Q + 1) (hx : x < M) (hy : y < M) (e : (x : Int) * (K : Int) % (M : Int) = (y : Int) * (K : Int) % (M : Int)) : x = y := by
  have e' : x * K % M = y * K % M := by
    have : ((x * K % M : Nat) : Int) = ((y * K % M : Nat) : Int) := by rw [Int.natCast_emod, Int.natCast_emod, Int.natCast_mul, Int.natCast_mul]; exact e
    exact Int.ofNat_inj.1 this
  have k : ∀ z : Nat, z < M → (z * K % M) * I % M = z := fun z hz => by
    rw [Nat.mod_mul_mod, Nat.mul_assoc, hK, Nat.mul_add, Nat.mul_one, Nat.mul_left_comm, Nat.mul_add_mod, Nat.mod_eq_of_lt hz]
  have a := k x hx
  rw [e', k y hy] at a
  exact a.symm
theorem xor_inj (h c d : Nat) (e : h ^^^ c = h ^^^ d) : c = d := by
  have := congrArg (fun z => h ^^^ z) e
  simpa [← Nat.xor_assoc] using this
theorem fnv1_range (h : Int) (b : UInt8) : 0 ≤ fnv1 h b ∧ fnv1 h b < 4294967296 := by
  unfold fnv1
  generalize bits .xor .u32 h (b.toNat : Int) = z
  exact ⟨Int.emod_nonneg _ (by decide), Int.emod_lt_of_pos _ (by decide)⟩
theorem fnv_range (l : List UInt8) : 0 ≤ fnv l ∧ fnv l < 4294967296 := by
  rcases List.eq_nil_or_concat l with rfl | ⟨r, b, rfl⟩
  · decide
  · rw [List.concat_eq_append, fnv_snoc]; exact fnv1_range _ _
theorem fnv1_inj (h : Int) (h0 : 0 ≤ h) (h1 : h < 4294967296) (c d : UInt8) : fnv1 h c = fnv1 h d ↔ c = d := by
  constructor
  · intro e
    unfold fnv1 at e
    have hc := c.toNat_lt
    have hd := d.toNat_lt
    rw [u32_xor h c.toNat h0 h1 (by omega) (by omega), u32_xor h d.toNat h0 h1 (by omega) (by omega)] at e
    have lc : h.toNat ^^^ ((c.toNat : Int)).toNat < 2 ^ 32 := Nat.xor_lt_two_pow (by omega) (by omega)
    have ld : h.toNat ^^^ ((d.toNat : Int)).toNat < 2 ^ 32 := Nat.xor_lt_two_pow (by omega) (by omega)
    simp only [Int.toNat_natCast] at e lc ld
    have hXY := mul_inj 4294967296 16777619 899433627 3513497 _ _ (by decide) lc ld e
    exact UInt8.toNat_inj.1 (xor_inj _ _ _ hXY)
  · rintro rfl; rfl
theorem fnv_a : fnv [97] = 3826002220 := by decide +kernel
theorem take_more (l : List UInt8) (k : Nat) (h : k < l.length) : l.take (k + 1) = l.take k ++ [l.getD k 0] := by
  rw [List.take_succ_eq_append_getElem h]; simp [List.getD, h]

set_option maxHeartbeats 1000000 in
theorem sum_any (s : ByteArray) (w : World) (hs : s.size ≤ 100000) :
    Calls Tryd.prog 10 #[.string s] w fun e w' => e = .returned (.int .u32 (fnv s.data.toList)) ∧ Nw w w' := by
  have hcv := Lib.run_convert_string_bytes (P := Tryd.prog) w 9 43 5 s (u := .string) Tryd.underlying9 Tryd.underlying43 Tryd.underlying5
  have hB : ∀ t, t < s.size → (Lib.bytesWorld w 5 s).cell? ⟨w.heap.size, t, none⟩ = some (.int .u8 (s.data.toList.getD t 0).toNat) := fun t ht => Lib.bytesWorld_cell w 5 s t ht
  have hN := bw_nw w 5 s
  have hl : s.data.toList.length = s.size := by simp
  generalize Lib.bytesWorld w 5 s = W1 at hcv hB hN
  have HL := Lib.hid hl
  clear hl
  go_enter Tryd.func10, Tryd.ntmps10
  go_wp2
  go_loop [3, 9] (fun h i => ∃ k : Nat, k ≤ s.size ∧ i = .int .i64 k ∧ h = .int .u32 (fnv (s.data.toList.take k))) (fun _ i => s.size - (intOf i).toNat)
  case atStart => exact ⟨0, Nat.zero_le _, rfl, rfl⟩
  case round =>
    obtain ⟨k, hk, rfl, rfl⟩ := hrel
    by_cases h : k < s.size
    · have hb := hB k h
      have e : fnv (s.data.toList.take (k + 1)) = fnv1 (fnv (s.data.toList.take k)) (s.data.toList.getD k 0) := by rw [take_more _ k (by rw [HL.out]; exact h), fnv_snoc]
      have E := Lib.hid e
      generalize fnv (s.data.toList.take k) = H at *
      generalize s.data.toList.getD k 0 = b at *
      clear e hB hcv
      go_wp2
      go_round
      case rel => exact ⟨k + 1, by omega, by go_num, by rw [E.out, fnv1, fnv_byte]⟩
      case measure => simp [intOf]; omega
    · have hk' : k = s.size := by omega
      have ht : s.data.toList.take k = s.data.toList := by rw [hk', ← HL.out]; exact List.take_length
      rw [ht]
      clear ht
      go_wp2
      go_ret
      exact ⟨rfl, hN⟩
end Go.Proofs.YtcffpbikjeimgaaDoor
