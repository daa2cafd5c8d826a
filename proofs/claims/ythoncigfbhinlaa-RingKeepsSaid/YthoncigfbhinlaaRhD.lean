/- ring: two copies are bytes written round the end. -/
import Derived.Test.YthoncigfbhinlaaRhC
namespace Go.Proofs.Ythoncigfbhinlaa
open Go Go.RowKit
set_option linter.unusedVariables false
set_option linter.unusedSimpArgs false
set_option maxHeartbeats 2000000

theorem wrF_get (D P : List Nat) (a : Nat) : ∀ (i : Nat), i ≤ D.length → i ≤ P.length → ∀ j, j < D.length →
    (wrF D a P i)[j]? = if (j + D.length - a % D.length) % D.length < i then P[(j + D.length - a % D.length) % D.length]? else D[j]?
  | 0, _, _, j, hj => by simp [wrF]
  | i + 1, hi, hP, j, hj => by
    have ih := wrF_get D P a i (by omega) (by omega) j hj
    have hn : 0 < D.length := by omega
    have ha : a % D.length < D.length := Nat.mod_lt _ hn
    have e1 : (a + i) % D.length = if a % D.length + i < D.length then a % D.length + i else a % D.length + i - D.length := by
      rw [Nat.add_mod, Nat.mod_eq_of_lt (by omega : i < D.length)]
      split
      · exact Nat.mod_eq_of_lt (by assumption)
      · rw [Nat.mod_eq_sub_mod (by omega), Nat.mod_eq_of_lt (by omega)]
    have e2 : (j + D.length - a % D.length) % D.length = if a % D.length ≤ j then j - a % D.length else j + D.length - a % D.length := by
      split
      · have : j + D.length - a % D.length = (j - a % D.length) + D.length := by omega
        rw [this, Nat.add_mod_right, Nat.mod_eq_of_lt (by omega)]
      · exact Nat.mod_eq_of_lt (by omega)
    rw [wrF, List.getElem?_set]
    generalize (a + i) % D.length = u at *
    generalize (j + D.length - a % D.length) % D.length = v at *
    by_cases c : u = j
    · have hv : v = i := by split at e1 <;> split at e2 <;> omega
      rw [if_pos c, wrF_len, if_pos (by omega), if_pos (by omega), hv]
      have hp : i < P.length := by omega
      rw [List.getElem?_eq_getElem hp]
      rfl
    · have hv : ¬ v = i := by intro hv; apply c; split at e1 <;> split at e2 <;> omega
      rw [if_neg c, ih]
      by_cases d : v < i
      · rw [if_pos d, if_pos (by omega)]
      · rw [if_neg d, if_neg (by omega)]
end Go.Proofs.Ythoncigfbhinlaa
