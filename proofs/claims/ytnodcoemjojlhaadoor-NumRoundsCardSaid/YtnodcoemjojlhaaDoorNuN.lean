/- num: NumRounds of pure arguments. -/
import Derived.Test.YtnodcoemjojlhaaDoorNuK
import Derived.Test.YtnodcoemjojlhaaDoorEvIn
namespace Go.Proofs.YtnodcoemjojlhaaDoor
open Go Go.RowKit
set_option linter.unusedVariables false
set_option linter.unusedSimpArgs false
set_option maxHeartbeats 8000000

/-- what the law reads at m = a/2, n = b/2, d = max(1, c) -/
structure R6 (m n d x f g t : Int) : Prop where
  q : Q6 x d f g t
  h17 : evE Dg 17 [.int .i64 m, .int .i64 n, .int .i64 d] = some (bnd f)
  h18 : evE Dg 18 [.int .i64 m, .int .i64 n, .int .i64 d] = some (bnd g)
  h17n : evE Dg 17 [.int .i64 (-m), .int .i64 n, .int .i64 d] = some (bnd (-g))
  wx : IntKind.i64.wrap (m * n) = x
  wt : x.tdiv d = t
  wt2 : IntKind.i64.wrap t = t
  wm : IntKind.i64.wrap (-m) = -m
  d0 : ¬ d = 0
theorem R6.mk' (m n d : Int) (h1 : -1073741824 ≤ m ∧ m ≤ 1073741823) (h2 : -1073741824 ≤ n ∧ n ≤ 1073741823) (h3 : 1 ≤ d) (h4 : d ≤ 2147483647) :
    R6 m n d (m * n) (m * n / d) (-(-(m * n) / d)) ((m * n).tdiv d) := by
  have hp := prod_le m n (by omega) (by omega)
  have q := Q6.mk' (m * n) d h3
  have b1 : inB m = true := (inB_iff m).2 (by omega)
  have b2 : inB n = true := (inB_iff n).2 (by omega)
  have b3 : inB (-m) = true := (inB_iff _).2 (by omega)
  have e1 : decide (1 ≤ d) = true := decide_eq_true h3
  have e2 : decide (d ≤ 1000000000000000) = true := decide_eq_true (by omega)
  have a17 := f17 m n d (by omega)
  have a18 := f18 m n d (by omega)
  have a17n := f17 (-m) n d (by omega)
  have c1 : pr (flr m n d) = bnd (m * n / d) := by
    unfold flr bnd
    rw [b1, b2, e1, e2]
    simp only [Bool.and_self, Bool.true_and]
    split <;> rfl
  have c2 : pr (cel m n d) = bnd (-(-(m * n) / d)) := by
    unfold cel bnd
    rw [b1, b2, e1, e2]
    simp only [Bool.and_self, Bool.true_and]
    split <;> rfl
  have c3 : pr (flr (-m) n d) = bnd (-(-(-(m * n) / d))) := by
    unfold flr bnd
    rw [b3, b2, e1, e2, Int.neg_neg, Int.neg_mul]
    simp only [Bool.and_self, Bool.true_and]
    split <;> rfl
  rw [c1] at a17
  rw [c2] at a18
  rw [c3] at a17n
  have ht : -1152921504606846977 ≤ (m * n).tdiv d ∧ (m * n).tdiv d ≤ 1152921504606846977 := by
    have hnn : ((m * n).tdiv d).natAbs ≤ (m * n).natAbs := by
      rw [Int.natAbs_tdiv]
      exact Nat.div_le_self _ _
    omega
  exact ⟨q, a17, a18, a17n, wrap_i64 _ (by omega) (by omega), rfl, wrap_i64 _ (by omega) (by omega), wrap_i64 _ (by omega) (by omega), by omega⟩
end Go.Proofs.YtnodcoemjojlhaaDoor
