/- Plain mathematics of the varints: decoding and encoding. Imports nothing of the program. -/
import Derived.Test.YtlpphnhamfgmiaaPlain
namespace Go.Proofs.Ytlpphnhamfgmiaa
open Go

/-- the integer with a number -/
def unzig (u : Nat) : Int := if u % 2 = 1 then -((u / 2 : Nat) : Int) - 1 else ((u / 2 : Nat) : Int)
/-- decoding: fuel, place, what is gathered, what is left; the answer: value, size, error -/
def decGo : Nat → Nat → Nat → List Int → Int × Int × Int
  | 0, _, _, _ => (0, 0, 10)
  | _ + 1, _, _, [] => (0, 0, 8)
  | f + 1, i, u, c :: l =>
    if i = 9 ∧ 1 < c then (0, 0, 10)
    else if 128 ≤ c then decGo f (i + 1) (u + (c % 128).toNat * 128 ^ i) l
    else if c = 0 ∧ 0 < i then (0, 0, 10)
    else (unzig (u + (c % 128).toNat * 128 ^ i), i + 1, 0)
def dec (l : List Int) : Int × Int × Int := decGo 10 0 0 l

theorem pow128 (k : Nat) : (128 : Nat) ^ k = 2 ^ (7 * k) := by rw [Nat.pow_mul]
theorem pow128_le {k : Nat} (h : k ≤ 9) : (128 : Nat) ^ k ≤ 9223372036854775808 :=
  Nat.le_trans (Nat.pow_le_pow_right (by decide) h) (by decide)

theorem gather_lt {u k : Nat} {z : Int} (hu : u < 128 ^ k) (hz0 : 0 ≤ z) : u + (z % 128).toNat * 128 ^ k < 128 ^ (k + 1) := by
  have h1 : (z % 128).toNat ≤ 127 := by omega
  have h2 : (z % 128).toNat * 128 ^ k ≤ 127 * 128 ^ k := Nat.mul_le_mul_right _ h1
  rw [Nat.pow_succ]
  omega
theorem gather_64 {u k : Nat} {z : Int} (hk : k < 10) (hu : u < 128 ^ k) (hz0 : 0 ≤ z) (h9 : k = 9 → z ≤ 1) : (z % 128).toNat * 128 ^ k < 18446744073709551616 ∧ u + (z % 128).toNat * 128 ^ k < 18446744073709551616 := by
  by_cases h : k = 9
  · subst h
    have := h9 rfl
    have h2 : (z % 128).toNat * 128 ^ 9 ≤ 1 * 128 ^ 9 := Nat.mul_le_mul_right _ (by omega)
    have h3 : (128 : Nat) ^ 9 = 9223372036854775808 := by decide
    omega
  · have h1 := gather_lt hu hz0
    have h2 := pow128_le (k := k + 1) (by omega)
    omega

theorem and127 (z : Int) (h0 : 0 ≤ z) (h1 : z ≤ 255) : bits .and .u8 z 127 = z % 128 :=
  bits_mask .u8 8 (by decide) wraps_u8 7 (by decide) z h0 (by omega)

theorem or_gather {u k : Nat} {z : Int} (hk : k < 10) (hu : u < 128 ^ k) (h0 : 0 ≤ z) (h1 : z ≤ 255) (h9 : k = 9 → z ≤ 1) :
    bits .or .u64 (u : Int) (IntKind.u64.wrap (IntKind.u64.wrap (bits .and .u8 z 127) * 2 ^ (7 * k))) = ((u + (z % 128).toNat * 128 ^ k : Nat) : Int) := by
  obtain ⟨g1, g2⟩ := gather_64 hk hu h0 h9
  have e1 : z % 128 = (((z % 128).toNat : Nat) : Int) := by omega
  have e2 : IntKind.u64.wrap (z % 128) = (((z % 128).toNat : Nat) : Int) := by rw [IntKind.wrap_u64]; omega
  have e3 : ((((z % 128).toNat : Nat) : Int) * 2 ^ (7 * k)) = (((z % 128).toNat * 128 ^ k : Nat) : Int) := by rw [pow128]; simp
  rw [and127 z h0 h1, e2, e3, IntKind.wrap_u64]
  generalize hm : (z % 128).toNat * 128 ^ k = m at g1 g2 ⊢
  rw [show ((m : Nat) : Int) % 18446744073709551616 = (m : Int) by omega, bits_or_u64_nat u m (by omega) g1]
  rw [pow128, Nat.mul_comm] at hm
  rw [← hm, Nat.add_comm, Nat.two_pow_add_eq_or_of_lt (by rw [← pow128]; exact hu), Nat.or_comm]

theorem and1_u64 (a : Nat) (ha : a < 18446744073709551616) : bits .and .u64 (a : Int) 1 = ((a % 2 : Nat) : Int) := by
  rw [show (1 : Int) = ((1 : Nat) : Int) by rfl, bits_and_u64_nat a 1 ha (by decide), Nat.and_one_is_mod]

theorem xor_i64_zero (n : Int) (h0 : -9223372036854775808 ≤ n) (h1 : n ≤ 9223372036854775807) : bits .xor .i64 n 0 = n := by
  show IntKind.i64.wrap ((BitVec.ofInt 64 n ^^^ BitVec.ofInt 64 0).toNat : Int) = n
  rw [show BitVec.ofInt 64 0 = 0#64 by decide, BitVec.xor_zero, BitVec.toNat_ofInt, IntKind.wrap_i64]
  omega
theorem xor_i64_neg1 (n : Int) (h0 : -9223372036854775808 ≤ n) (h1 : n ≤ 9223372036854775807) : bits .xor .i64 n (-1) = -n - 1 := by
  show IntKind.i64.wrap ((BitVec.ofInt 64 n ^^^ BitVec.ofInt 64 (-1)).toNat : Int) = -n - 1
  rw [show BitVec.ofInt 64 (-1) = BitVec.allOnes 64 by decide, BitVec.xor_allOnes, BitVec.toNat_not, BitVec.toNat_ofInt, IntKind.wrap_i64]
  omega
end Go.Proofs.Ytlpphnhamfgmiaa
