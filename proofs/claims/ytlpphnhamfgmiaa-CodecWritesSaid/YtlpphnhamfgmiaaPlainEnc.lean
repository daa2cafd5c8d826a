/- Plain mathematics of the encoding of integers. Imports nothing of the program. -/
import Derived.Test.YtlpphnhamfgmiaaPlainInt
namespace Go.Proofs.Ytlpphnhamfgmiaa
open Go

def zig (n : Int) : Nat := if n < 0 then 2 * (-(n + 1)).toNat + 1 else 2 * n.toNat
def encGo : Nat → Nat → List Int
  | 0, u => [(u : Int)]
  | f + 1, u => if u < 128 then [(u : Int)] else ((u % 128 + 128 : Nat) : Int) :: encGo f (u / 128)
def enc (n : Int) : List Int := encGo 9 (zig n)

theorem zig_lt {n : Int} (h0 : -9223372036854775808 ≤ n) (h1 : n ≤ 9223372036854775807) : zig n < 18446744073709551616 := by
  unfold zig; split <;> omega

theorem xor_all (a : Nat) (ha : a < 18446744073709551616) : a ^^^ 18446744073709551615 = 18446744073709551615 - a := by
  have h := BitVec.toNat_not (x := BitVec.ofNat 64 a)
  rw [← BitVec.xor_allOnes, BitVec.toNat_xor, BitVec.toNat_ofNat, Nat.mod_eq_of_lt (by omega)] at h
  rw [show (BitVec.allOnes 64).toNat = 18446744073709551615 by decide] at h
  rw [h]

theorem zig_bits {n : Int} (h0 : -9223372036854775808 ≤ n) (h1 : n ≤ 9223372036854775807) :
    bits .xor .u64 (IntKind.u64.wrap (IntKind.u64.wrap n * 2)) (IntKind.u64.wrap (n / 9223372036854775808)) = (zig n : Int) := by
  simp only [IntKind.wrap_u64]
  unfold zig
  by_cases h : n < 0
  · rw [if_pos h]
    have e1 : (n % 18446744073709551616 * 2) % 18446744073709551616 = (((n % 18446744073709551616 * 2) % 18446744073709551616).toNat : Int) := by omega
    have e2 : n / 9223372036854775808 % 18446744073709551616 = ((18446744073709551615 : Nat) : Int) := by omega
    rw [e1, e2, bits_xor_u64_nat _ _ (by omega) (by omega), xor_all _ (by omega)]
    omega
  · rw [if_neg h]
    have e1 : (n % 18446744073709551616 * 2) % 18446744073709551616 = ((2 * n.toNat : Nat) : Int) := by omega
    have e2 : n / 9223372036854775808 % 18446744073709551616 = ((0 : Nat) : Int) := by omega
    rw [e1, e2, bits_xor_u64_nat _ _ (by omega) (by omega), Nat.xor_zero]

theorem or128_fin : ∀ m : Fin 256, bits .or .u8 (m.val : Int) 128 = ((m.val % 128 + 128 : Nat) : Int) := by decide +kernel
theorem or128 (u : Nat) : bits .or .u8 (IntKind.u8.wrap (u : Int)) 128 = ((u % 128 + 128 : Nat) : Int) := by
  have h := or128_fin ⟨u % 256, Nat.mod_lt _ (by decide)⟩
  rw [IntKind.wrap_u8, show (u : Int) % 256 = ((u % 256 : Nat) : Int) by omega]
  simp only at h
  rw [h]; omega

theorem encGo_lt {f u : Nat} (h : u < 128) : encGo f u = [(u : Int)] := by
  cases f <;> simp [encGo, h]
theorem encGo_ge {f u : Nat} (h : ¬ u < 128) : encGo (f + 1) u = ((u % 128 + 128 : Nat) : Int) :: encGo f (u / 128) := by
  simp [encGo, h]
theorem encGo_len : ∀ (f u : Nat), 1 ≤ (encGo f u).length ∧ (encGo f u).length ≤ f + 1
  | 0, u => by simp [encGo]
  | f + 1, u => by
    simp only [encGo]
    split
    · simp
    · have := encGo_len f (u / 128); simp; omega
theorem encGo_in : ∀ (f u : Nat), u < 128 ^ (f + 1) → InB (encGo f u)
  | 0, u, h => by intro z hz; simp [encGo] at hz; subst hz; omega
  | f + 1, u, h => by
    simp only [encGo]
    split
    · intro z hz; simp at hz; subst hz; omega
    · intro z hz
      rcases List.mem_cons.1 hz with rfl | hz
      · omega
      · exact encGo_in f (u / 128) (by rw [Nat.pow_succ] at h; omega) z hz
theorem enc_in {n : Int} (h0 : -9223372036854775808 ≤ n) (h1 : n ≤ 9223372036854775807) : InB (enc n) :=
  encGo_in 9 _ (Nat.lt_of_lt_of_le (zig_lt h0 h1) (by decide))
theorem enc_len (n : Int) : 1 ≤ (enc n).length ∧ (enc n).length ≤ 10 := encGo_len 9 _

end Go.Proofs.Ytlpphnhamfgmiaa
