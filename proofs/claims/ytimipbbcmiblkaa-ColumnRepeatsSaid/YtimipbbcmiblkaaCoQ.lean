/- column: integers at the beginning of bytes. -/
import Derived.Test.YtimipbbcmiblkaaCoB
namespace Go.Proofs.Ytimipbbcmiblkaa
open Go Go.RowKit
set_option linter.unusedVariables false
set_option linter.unusedSimpArgs false
set_option maxHeartbeats 8000000

/-- the integer with a number -/
def unzig (u : Nat) : Int := if u % 2 = 1 then -((u / 2 : Nat) : Int) - 1 else ((u / 2 : Nat) : Int)
/-- decoding: fuel, place, what is gathered, what is left; the answer: value, size, error -/
def decGo : Nat → Nat → Nat → List Nat → Int × Nat × Int
  | 0, _, _, _ => (0, 0, 10)
  | _ + 1, _, _, [] => (0, 0, 8)
  | f + 1, i, u, c :: l =>
    if i = 9 ∧ 1 < c then (0, 0, 10)
    else if 128 ≤ c then decGo f (i + 1) (u + c % 128 * 128 ^ i) l
    else if c = 0 ∧ 0 < i then (0, 0, 10)
    else (unzig (u + c % 128 * 128 ^ i), i + 1, 0)
def dec (l : List Nat) : Int × Nat × Int := decGo 10 0 0 l
def okB (l : List Nat) : Prop := ∀ z ∈ l, z ≤ 255
def eB (x : Bool) (l : List Nat) : PV := .sl x 1 (bR l)

theorem pow128 (k : Nat) : (128 : Nat) ^ k = 2 ^ (7 * k) := by rw [Nat.pow_mul]
theorem pow128_le {k : Nat} (h : k ≤ 9) : (128 : Nat) ^ k ≤ 9223372036854775808 :=
  Nat.le_trans (Nat.pow_le_pow_right (by decide) h) (by decide)
theorem gather_lt {u k z : Nat} (hu : u < 128 ^ k) : u + z % 128 * 128 ^ k < 128 ^ (k + 1) := by
  have h1 : z % 128 ≤ 127 := by omega
  have h2 : z % 128 * 128 ^ k ≤ 127 * 128 ^ k := Nat.mul_le_mul_right _ h1
  rw [Nat.pow_succ]
  omega
theorem gather_64 {u k z : Nat} (hk : k < 10) (hu : u < 128 ^ k) (h9 : k = 9 → z ≤ 1) : z % 128 * 128 ^ k < 18446744073709551616 ∧ u + z % 128 * 128 ^ k < 18446744073709551616 := by
  by_cases h : k = 9
  · subst h
    have := h9 rfl
    have h2 : z % 128 * 128 ^ 9 ≤ 1 * 128 ^ 9 := Nat.mul_le_mul_right _ (by omega)
    have h3 : (128 : Nat) ^ 9 = 9223372036854775808 := by decide
    omega
  · have h1 := gather_lt (z := z) hu
    have h2 := pow128_le (k := k + 1) (by omega)
    omega
theorem wrap_u64' (x : Int) : IntKind.u64.wrap x = x % 18446744073709551616 := by
  unfold IntKind.wrap
  simp only [IntKind.bits, IntKind.signed]
  simp
theorem wrap_u64 (x : Int) (h1 : 0 ≤ x) (h2 : x < 18446744073709551616) : IntKind.u64.wrap x = x := by
  rw [wrap_u64']; omega
theorem mod_bits (x : Nat) (h : x < 18446744073709551616) : x % 2 ^ IntKind.u64.bits = x := Nat.mod_eq_of_lt h
/-- the number with a further group -/
theorem or_gather {u k z : Nat} (hk : k < 10) (hu : u < 128 ^ k) (h9 : k = 9 → z ≤ 1) : IntKind.u64.wrap ((u % 2 ^ IntKind.u64.bits ||| (z % 128 * 128 ^ k) % 2 ^ IntKind.u64.bits : Nat) : Int) = ((u + z % 128 * 128 ^ k : Nat) : Int) := by
  obtain ⟨g1, g2⟩ := gather_64 (z := z) hk hu h9
  rw [mod_bits u (by omega), mod_bits _ g1]
  have e : u ||| z % 128 * 128 ^ k = u + z % 128 * 128 ^ k := by
    have hu' : u < 2 ^ (7 * k) := by rw [← pow128]; exact hu
    have := Nat.two_pow_add_eq_or_of_lt hu' (z % 128)
    rw [pow128, Nat.mul_comm (z % 128), Nat.or_comm, ← this, Nat.add_comm]
  rw [e, wrap_u64 _ (by omega) (by omega)]
theorem decGo_step {l : List Nat} {k u z : Nat} (hk : k < 10) (hz : l[k]? = some z) : decGo (10 - k) k u (l.drop k) =
    if k = 9 ∧ 1 < z then (0, 0, 10)
    else if 128 ≤ z then decGo (10 - (k + 1)) (k + 1) (u + z % 128 * 128 ^ k) (l.drop (k + 1))
    else if z = 0 ∧ 0 < k then (0, 0, 10)
    else (unzig (u + z % 128 * 128 ^ k), k + 1, 0) := by
  obtain ⟨h1, e⟩ := List.getElem?_eq_some_iff.1 hz
  have e1 : 10 - k = (10 - (k + 1)) + 1 := by omega
  rw [List.drop_eq_getElem_cons h1, e, e1]
  simp only [decGo]
theorem decGo_short {l : List Nat} {k u : Nat} (hk : k < 10) (hl : l.length ≤ k) : decGo (10 - k) k u (l.drop k) = (0, 0, 8) := by
  have e1 : 10 - k = (10 - (k + 1)) + 1 := by omega
  rw [List.drop_eq_nil_of_le hl, e1]
  rfl
def tr3 (r : Int × Nat × Int) : PV := .tup [.int .i64 r.1, .int .i64 r.2.1, .int .i64 r.2.2]
end Go.Proofs.Ytimipbbcmiblkaa
