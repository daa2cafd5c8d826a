/- num: NumRounds of pure arguments. -/
import Derived.Test.YtnodcoemjojlhaaDoorNuJ
namespace Go.Proofs.YtnodcoemjojlhaaDoor
open Go Go.RowKit
set_option linter.unusedVariables false
set_option linter.unusedSimpArgs false
set_option maxHeartbeats 8000000

/-- floor, ceiling, and the quotient cut towards zero -/
structure Q6 (x d f g t : Int) : Prop where
  f1 : d * f ≤ x
  f2 : x < d * f + d
  g1 : x ≤ d * g
  g2 : d * g < x + d
  t1 : t = f ∨ t = g
  t2 : f ≤ t ∧ t ≤ g
  t3 : 0 < t → t = f
  t4 : t < 0 → t = g
  t5 : g ≤ f + 1
theorem Q6.mk' (x d : Int) (hd : 1 ≤ d) : Q6 x d (x / d) (-(-x / d)) (x.tdiv d) := by
  have a1 := Int.mul_ediv_add_emod x d
  have a2 := Int.emod_nonneg x (by omega : d ≠ 0)
  have a3 := Int.emod_lt_of_pos x (by omega : 0 < d)
  have b1 := Int.mul_ediv_add_emod (-x) d
  have b2 := Int.emod_nonneg (-x) (by omega : d ≠ 0)
  have b3 := Int.emod_lt_of_pos (-x) (by omega : 0 < d)
  have hg : d * -(-x / d) = -(d * (-x / d)) := by rw [Int.mul_neg]
  have c1 : d * (x / d) ≤ x := by omega
  have c2 : x < d * (x / d) + d := by omega
  have c3 : x ≤ d * -(-x / d) := by omega
  have c4 : d * -(-x / d) < x + d := by omega
  have le : x / d ≤ -(-x / d) := by
    apply Decidable.byContradiction
    intro h
    have : -(-x / d) + 1 ≤ x / d := by omega
    have := Int.mul_le_mul_of_nonneg_left this (by omega : 0 ≤ d)
    rw [Int.mul_add] at this
    omega
  have l2 : -(-x / d) ≤ x / d + 1 := by
    apply Decidable.byContradiction
    intro h
    have : x / d + 2 ≤ -(-x / d) := by omega
    have := Int.mul_le_mul_of_nonneg_left this (by omega : 0 ≤ d)
    rw [Int.mul_add] at this
    omega
  by_cases hx : 0 ≤ x
  · have e : x.tdiv d = x / d := Int.tdiv_eq_ediv_of_nonneg hx
    have nn : 0 ≤ x / d := Int.ediv_nonneg hx (by omega)
    rw [e]
    exact ⟨c1, c2, c3, c4, .inl rfl, ⟨by omega, le⟩, fun _ => rfl, fun h => by omega, l2⟩
  · have e : x.tdiv d = -(-x / d) := by
      have : x.tdiv d = -((-x).tdiv d) := by rw [Int.neg_tdiv, Int.neg_neg]
      rw [this, Int.tdiv_eq_ediv_of_nonneg (by omega)]
    have nn : 0 ≤ -x / d := Int.ediv_nonneg (by omega) (by omega)
    rw [e]
    exact ⟨c1, c2, c3, c4, .inr rfl, ⟨le, by omega⟩, fun h => by omega, fun h => rfl, l2⟩
theorem half (a : Int) (h1 : -2147483648 ≤ a) (h2 : a ≤ 2147483647) : -1073741824 ≤ a.tdiv 2 ∧ a.tdiv 2 ≤ 1073741823 := by
  by_cases h : 0 ≤ a
  · rw [Int.tdiv_eq_ediv_of_nonneg h]; omega
  · have : a.tdiv 2 = -((-a).tdiv 2) := by rw [Int.neg_tdiv, Int.neg_neg]
    rw [this, Int.tdiv_eq_ediv_of_nonneg (by omega)]; omega
theorem prod_le (m n : Int) (h1 : -1073741824 ≤ m ∧ m ≤ 1073741824) (h2 : -1073741824 ≤ n ∧ n ≤ 1073741824) : -1152921504606846976 ≤ m * n ∧ m * n ≤ 1152921504606846976 := by
  have h3 : m.natAbs ≤ 1073741824 := by omega
  have h4 : n.natAbs ≤ 1073741824 := by omega
  have := Nat.mul_le_mul h3 h4
  have e := Int.natAbs_mul m n
  rw [← e] at this
  omega
end Go.Proofs.YtnodcoemjojlhaaDoor
