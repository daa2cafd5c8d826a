/- ring: integers at the beginning of bytes, as the program and the reference read them. -/
import Derived.Test.YthoncigfbhinlaaRgA
namespace Go.Proofs.Ythoncigfbhinlaa
open Go Go.RowKit
set_option linter.unusedVariables false
set_option linter.unusedSimpArgs false
set_option maxHeartbeats 8000000

/-- the integer with a number -/
def unzig (u : Nat) : Int := if u % 2 = 1 then -((u / 2 : Nat) : Int) - 1 else ((u / 2 : Nat) : Int)
/-- decoding: fuel, place, what is gathered, what is left; the answer: value, size, error -/
def decGo : Nat → Nat → Nat → List Nat → Int × Nat × Int
  | 0, _, _, _ => (0, 0, 10)
  | _ + 1, _, _, [] => (0, 0, 8)
  | f + 1, i, u, c :: l =>
    if i = 9 ∧ 1 < c then (0, 0, 10)
    else if 128 ≤ c then decGo f (i + 1) (u + c % 128 * 128 ^ i) l
    else if c = 0 ∧ 0 < i then (0, 0, 10)
    else (unzig (u + c % 128 * 128 ^ i), i + 1, 0)
def dec (l : List Nat) : Int × Nat × Int := decGo 10 0 0 l
def bR (l : List Nat) : List (List PV) := l.map fun (z : Nat) => [PV.int .u8 (z : Int)]
def okB (l : List Nat) : Prop := ∀ z ∈ l, z ≤ 255
theorem bR_len (l : List Nat) : (bR l).length = l.length := by simp [bR]
theorem bR_get {l : List Nat} {k : Nat} {z : Nat} (h : l[k]? = some z) : (bR l)[k]? = some [.int .u8 (z : Int)] := by simp [bR, h]
theorem bR_got {l : List Nat} {k : Nat} {z : Nat} (h : l[k]? = some z) : ∀ q, (bR l)[k]'q = [.int .u8 (z : Int)] := fun q => by
  have := bR_get h
  rw [List.getElem?_eq_getElem q] at this
  exact Option.some.inj this
theorem bR_app (a b : List Nat) : bR (a ++ b) = bR a ++ bR b := by simp [bR]
def eB (x : Bool) (l : List Nat) : PV := .sl x 1 (bR l)

theorem pow128 (k : Nat) : (128 : Nat) ^ k = 2 ^ (7 * k) := by rw [Nat.pow_mul]
theorem pow128_le {k : Nat} (h : k ≤ 9) : (128 : Nat) ^ k ≤ 9223372036854775808 :=
  Nat.le_trans (Nat.pow_le_pow_right (by decide) h) (by decide)
theorem gather_lt {u k z : Nat} (hu : u < 128 ^ k) : u + z % 128 * 128 ^ k < 128 ^ (k + 1) := by
  have h1 : z % 128 ≤ 127 := by omega
  have h2 : z % 128 * 128 ^ k ≤ 127 * 128 ^ k := Nat.mul_le_mul_right _ h1
  rw [Nat.pow_succ]
  omega
theorem gather_64 {u k z : Nat} (hk : k < 10) (hu : u < 128 ^ k) (h9 : k = 9 → z ≤ 1) : z % 128 * 128 ^ k < 18446744073709551616 ∧ u + z % 128 * 128 ^ k < 18446744073709551616 := by
  by_cases h : k = 9
  · subst h
    have := h9 rfl
    have h2 : z % 128 * 128 ^ 9 ≤ 1 * 128 ^ 9 := Nat.mul_le_mul_right _ (by omega)
    have h3 : (128 : Nat) ^ 9 = 9223372036854775808 := by decide
    omega
  · have h1 := gather_lt (z := z) hu
    have h2 := pow128_le (k := k + 1) (by omega)
    omega
theorem wrap_u64' (x : Int) : IntKind.u64.wrap x = x % 18446744073709551616 := by
  unfold IntKind.wrap
  simp only [IntKind.bits, IntKind.signed]
  simp
theorem wrap_u64 (x : Int) (h1 : 0 ≤ x) (h2 : x < 18446744073709551616) : IntKind.u64.wrap x = x := by
  rw [wrap_u64']; omega
theorem mod_bits (x : Nat) (h : x < 18446744073709551616) : x % 2 ^ IntKind.u64.bits = x := Nat.mod_eq_of_lt h
/-- the number with a further group -/
theorem or_gather {u k z : Nat} (hk : k < 10) (hu : u < 128 ^ k) (h9 : k = 9 → z ≤ 1) : IntKind.u64.wrap ((u % 2 ^ IntKind.u64.bits ||| (z % 128 * 128 ^ k) % 2 ^ IntKind.u64.bits : Nat) : Int) = ((u + z % 128 * 128 ^ k : Nat) : Int) := by
  obtain ⟨g1, g2⟩ := gather_64 (z := z) hk hu h9
  rw [mod_bits u (by omega), mod_bits _ g1]
  have e : u ||| z % 128 * 128 ^ k = u + z % 128 * 128 ^ k := by
    have hu' : u < 2 ^ (7 * k) := by rw [← pow128]; exact hu
    have := Nat.two_pow_add_eq_or_of_lt hu' (z % 128)
    rw [pow128, Nat.mul_comm (z % 128), Nat.or_comm, ← this, Nat.add_comm]
  rw [e, wrap_u64 _ (by omega) (by omega)]
theorem decGo_step {l : List Nat} {k u z : Nat} (hk : k < 10) (hz : l[k]? = some z) : decGo (10 - k) k u (l.drop k) =
    if k = 9 ∧ 1 < z then (0, 0, 10)
    else if 128 ≤ z then decGo (10 - (k + 1)) (k + 1) (u + z % 128 * 128 ^ k) (l.drop (k + 1))
    else if z = 0 ∧ 0 < k then (0, 0, 10)
    else (unzig (u + z % 128 * 128 ^ k), k + 1, 0) := by
  obtain ⟨h1, e⟩ := List.getElem?_eq_some_iff.1 hz
  have e1 : 10 - k = (10 - (k + 1)) + 1 := by omega
  rw [List.drop_eq_getElem_cons h1, e, e1]
  simp only [decGo]
theorem decGo_short {l : List Nat} {k u : Nat} (hk : k < 10) (hl : l.length ≤ k) : decGo (10 - k) k u (l.drop k) = (0, 0, 8) := by
  have e1 : 10 - k = (10 - (k + 1)) + 1 := by omega
  rw [List.drop_eq_nil_of_le hl, e1]
  rfl
def tr3 (r : Int × Nat × Int) : PV := .tup [.int .i64 r.1, .int .i64 r.2.1, .int .i64 r.2.2]

theorem f42 (u : Nat) (h : u < 18446744073709551616) : evE Dg 42 [.int .u64 u] = some (.int .i64 (unzig u)) := by
  have h2 : Int.tmod (u : Int) 2 = ((u % 2 : Nat) : Int) := by rw [Int.tmod_eq_emod_of_nonneg (by omega)]; omega
  have h3 : Int.tdiv (u : Int) 2 = ((u / 2 : Nat) : Int) := by rw [Int.tdiv_eq_ediv_of_nonneg (by omega)]; omega
  have w1 : IntKind.u64.wrap ((u / 2 : Nat) : Int) = ((u / 2 : Nat) : Int) := wrap_u64 _ (by omega) (by omega)
  have w2 : IntKind.i64.wrap ((u / 2 : Nat) : Int) = ((u / 2 : Nat) : Int) := wrap_i64 _ (by omega) (by omega)
  have w3 : IntKind.i64.wrap (0 - ((u / 2 : Nat) : Int)) = -((u / 2 : Nat) : Int) := by rw [wrap_i64 _ (by omega) (by omega)]; omega
  have w3' : IntKind.i64.wrap (-((u / 2 : Nat) : Int)) = -((u / 2 : Nat) : Int) := wrap_i64 _ (by omega) (by omega)
  have w4 : IntKind.i64.wrap (-((u / 2 : Nat) : Int) - 1) = -((u / 2 : Nat) : Int) - 1 := wrap_i64 _ (by omega) (by omega)
  have h3' : (u : Int) / 2 = ((u / 2 : Nat) : Int) := by omega
  have h2' : (u : Int) % 2 = ((u % 2 : Nat) : Int) := by omega
  refine evE_intro 3 D42 rfl ?_
  unfold c42 unzig
  generalize u / 2 = q at *
  by_cases c : u % 2 = 1
  · have c' : ((1 : Nat) : Int) = 1 := rfl
    rw [c] at h2 h2'
    simp [evCode, evOps, evOne, evOp, evPur, evEff, evPur.chunks, fillP, AOp.isEff, AO.ev, putP, PV.cells, PV.leaf, getB, getM, mapE, keyC, mapRows, mfind, eq1, eqL, scal, binP, unP, minP, maxP, foldP, PV.lt, PV.lt.ltL, endP, expoAll, expo, expo.expoL, frIds, frIds.frIdsL, nodupN, kill, cls, clsFuel, resO, RV.get, loadP, evC_p, evC_s, endS, endT, rowsOf, callP, thinL, unfr, unfr.unfrL, PV.noMem, PV.noMem.noMemL, optI, mapO, norm, trimT, trimB, forget, hasN, blksLt, List.set, h2, h2', c, h3, h3', w1, w2, w3, w3', w4]
  · have c0 : u % 2 = 0 := by omega
    rw [c0] at h2 h2'
    simp [evCode, evOps, evOne, evOp, evPur, evEff, evPur.chunks, fillP, AOp.isEff, AO.ev, putP, PV.cells, PV.leaf, getB, getM, mapE, keyC, mapRows, mfind, eq1, eqL, scal, binP, unP, minP, maxP, foldP, PV.lt, PV.lt.ltL, endP, expoAll, expo, expo.expoL, frIds, frIds.frIdsL, nodupN, kill, cls, clsFuel, resO, RV.get, loadP, evC_p, evC_s, endS, endT, rowsOf, callP, thinL, unfr, unfr.unfrL, PV.noMem, PV.noMem.noMemL, optI, mapO, norm, trimT, trimB, forget, hasN, blksLt, List.set, h2, h2', c, c0, h3, h3', w1, w2]
end Go.Proofs.Ythoncigfbhinlaa
