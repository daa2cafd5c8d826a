/- num: ranks, plain: what NumRanks asks of sorted lists. -/
import Derived.Test.YtnodcoemjojlhaaDoorNqE
namespace Go.Proofs.YtnodcoemjojlhaaDoor
open Go Go.RowKit
set_option linter.unusedVariables false

theorem sortZ_congr {a b : List Int} (h : a.Perm b) : sortZ a = sortZ b := by
  refine List.Perm.eq_of_pairwise (le := fun a b => decide (a ≤ b) = true) (fun a b _ _ h1 h2 => by simp only [decide_eq_true_eq] at h1 h2; omega) (sortZ_sorted a) (sortZ_sorted b) (((sortZ_perm a).trans h).trans (sortZ_perm b).symm)
theorem sort_get_le {zs : List Int} {i j : Nat} {a b : Int} (hij : i ≤ j) (hi : (sortZ zs)[i]? = some a) (hj : (sortZ zs)[j]? = some b) : a ≤ b := by
  rcases Nat.lt_or_ge i j with h | h
  · exact pair_get (sortZ_sorted zs) h hi hj
  · have : i = j := by omega
    subst this
    rw [hi] at hj
    cases hj
    omega
theorem qAt_zero (N K : Nat) : qAt 0 N K = 0 := by unfold qAt; simp
theorem qAt_one (N K : Nat) (hN : 1 ≤ N) (hK : 1 ≤ K) : qAt K N K = N - 1 := by
  unfold qAt
  rw [Nat.mul_div_cancel_left _ (by omega), Nat.mul_mod_right, if_pos rfl]
  omega
theorem qAt_mono {P P' : Nat} (N K : Nat) (h : P ≤ P') : qAt P N K ≤ qAt P' N K := by
  have h1 : P * N ≤ P' * N := Nat.mul_le_mul_right _ h
  unfold qAt
  generalize P * N = x at *
  generalize P' * N = y at *
  rcases Nat.eq_zero_or_pos K with h0 | h0
  · subst h0
    simp only [Nat.div_zero, Nat.mod_zero]
    split <;> split <;> omega
  have a1 := Nat.div_add_mod x K
  have a2 := Nat.div_add_mod y K
  have b1 := Nat.mod_lt x h0
  have b2 := Nat.mod_lt y h0
  have d := Nat.div_le_div_right (c := K) h1
  by_cases e : x / K = y / K
  · rw [e] at a1 ⊢
    have : x % K ≤ y % K := by omega
    split <;> split <;> omega
  · split <;> split <;> omega
theorem sort_mem {zs : List Int} {z : Int} (h : z ∈ zs) : ∃ i, (sortZ zs)[i]? = some z ∧ i < zs.length := by
  obtain ⟨i, hi⟩ := List.mem_iff_getElem?.1 ((sortZ_perm zs).mem_iff.2 h)
  have := (List.getElem?_eq_some_iff.1 hi).1
  rw [sortZ_len] at this
  exact ⟨i, hi, this⟩
theorem sort_ends {zs : List Int} {z lo hi : Int} (h : z ∈ zs) (h0 : (sortZ zs)[0]? = some lo) (h1 : (sortZ zs)[zs.length - 1]? = some hi) : lo ≤ z ∧ z ≤ hi := by
  obtain ⟨i, hi2, hl⟩ := sort_mem h
  exact ⟨sort_get_le (Nat.zero_le _) h0 hi2, sort_get_le (by omega) hi2 h1⟩
end Go.Proofs.YtnodcoemjojlhaaDoor
