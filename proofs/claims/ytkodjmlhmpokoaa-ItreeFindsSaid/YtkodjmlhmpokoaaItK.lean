/- itree: both lists of ends are the same. -/
import Derived.Test.YtkodjmlhmpokoaaItJ
namespace Go.Proofs.Ytkodjmlhmpokoaa
open Go Go.RowKit
set_option linter.unusedVariables false
set_option linter.unusedSimpArgs false

theorem grt_set (e : Nat → Int) : ∀ f lo hi m p v, (p < lo ∨ hi ≤ p) → grt e f lo hi (m.set p v) = (grt e f lo hi m).set p v
  | 0, _, _, _, _, _, _ => rfl
  | f + 1, lo, hi, m, p, v, h => by
    unfold grt
    split
    · rfl
    · have hr : (lo + hi) / 2 ≠ p := by omega
      rw [List.set_comm _ _ (Ne.symm hr), grt_set e f _ _ _ _ _ (by omega), grt_set e f _ _ _ _ _ (by omega)]
theorem grt_out (e : Nat → Int) : ∀ f lo hi m p, (p < lo ∨ hi ≤ p) → (grt e f lo hi m).getD p 0 = m.getD p 0
  | 0, _, _, _, _, _ => rfl
  | f + 1, lo, hi, m, p, h => by
    unfold grt
    split
    · rfl
    · have hr : (lo + hi) / 2 ≠ p := by omega
      rw [grt_out e f _ _ _ _ (by omega), grt_out e f _ _ _ _ (by omega)]
      simp [List.getD_eq_getElem?_getD, List.getElem?_set, hr]
theorem grt_root (e : Nat → Int) (f lo hi : Nat) (m : List Int) (h : lo < hi) (hf : hi - lo ≤ f) (hm : hi ≤ m.length) : (grt e f lo hi m).getD ((lo + hi) / 2) 0 = vAt e lo (hi - lo) := by
  cases f with
  | zero => omega
  | succ f =>
    unfold grt
    rw [if_neg (by omega), grt_out e f _ _ _ _ (by omega), grt_out e f _ _ _ _ (by omega)]
    have : (lo + hi) / 2 < m.length := by omega
    simp [List.getD_eq_getElem?_getD, List.getElem?_set, this]
/-- the greatest of a part -/
theorem vAt_max (e : Nat → Int) (lo : Nat) : ∀ k, (∀ p, lo ≤ p → p < lo + k → e p ≤ vAt e lo k) ∧ ∃ p, lo ≤ p ∧ p < lo + max k 1 ∧ vAt e lo k = e p
  | 0 => ⟨fun p h1 h2 => by omega, lo, by omega, by omega, rfl⟩
  | k + 1 => by
    obtain ⟨h1, p, h2, h3, h4⟩ := vAt_max e lo k
    unfold vAt
    split
    · refine ⟨fun q q1 q2 => ?_, lo + k, by omega, by omega, rfl⟩
      by_cases hq : q = lo + k
      · rw [hq]; exact Int.le_refl _
      · have := h1 q q1 (by omega); omega
    · refine ⟨fun q q1 q2 => ?_, p, h2, by omega, h4⟩
      by_cases hq : q = lo + k
      · rw [hq]; omega
      · exact h1 q q1 (by omega)
theorem vAt_eq (e : Nat → Int) (lo k : Nat) (v : Int) (hk : 0 < k) (h1 : ∀ p, lo ≤ p → p < lo + k → e p ≤ v) (h2 : ∃ p, lo ≤ p ∧ p < lo + k ∧ v = e p) : v = vAt e lo k := by
  obtain ⟨g1, q, g2, g3, g4⟩ := vAt_max e lo k
  obtain ⟨p, p1, p2, p3⟩ := h2
  have a := g1 p p1 p2
  have b := h1 q g2 (by omega)
  omega
def mx (a b : Int) : Int := if a < b then b else a
theorem mst_eq (e : Nat → Int) : ∀ f lo hi m, hi - lo ≤ f → hi ≤ m.length → mst e f lo hi m = grt e f lo hi m
  | 0, _, _, _, _, _ => rfl
  | f + 1, lo, hi, m, hf, hm => by
    unfold mst grt
    simp only
    split
    · rfl
    · rename_i hh
      have hr1 : lo ≤ (lo + hi) / 2 := by omega
      have hr2 : (lo + hi) / 2 < hi := by omega
      generalize (lo + hi) / 2 = r at *
      have rl : r < m.length := by omega
      have IH := mst_eq e f
      obtain ⟨a, ha, hmx⟩ : ∃ a, (if lo < r then gt2 (mst e f lo r (m.set r (e r))) r ((lo + r) / 2) else m.set r (e r)) = (grt e f lo r m).set r a ∧ a = vAt e lo (r - lo + 1) := by
        split
        · rename_i c
          rw [IH lo r _ (by omega) (by simp; omega)]
          unfold gt2
          rw [grt_root e f lo r _ c (by omega) (by simp; omega), grt_out e f lo r _ r (by omega), grt_set e f lo r _ _ _ (by omega), List.set_set]
          refine ⟨_, rfl, ?_⟩
          have : (m.set r (e r)).getD r 0 = e r := by simp [List.getD_eq_getElem?_getD, List.getElem?_set, rl]
          rw [this]
          simp only [vAt]
          rw [show lo + (r - lo) = r by omega]
          split <;> split <;> omega
        · rename_i c
          have : lo = r := by omega
          subst this
          have : grt e f lo lo m = m := by
            cases f with
            | zero => rfl
            | succ f => unfold grt; rw [if_pos (Nat.le_refl _)]
          rw [this]
          refine ⟨_, rfl, ?_⟩
          rw [Nat.sub_self]
          simp [vAt]
      rw [ha]
      rw [grt_set e f lo r _ _ _ (by omega), grt_set e f (r + 1) hi _ _ _ (by omega)]
      have gl : r < (grt e f lo r m).length := by rw [grt_len]; exact rl
      split
      · rename_i c
        rw [IH (r + 1) hi _ (by omega) (by simp [grt_len]; omega)]
        unfold gt2
        rw [grt_root e f (r + 1) hi _ c (by omega) (by simp [grt_len]; omega), grt_out e f (r + 1) hi _ r (by omega), grt_set e f (r + 1) hi _ _ _ (by omega), List.set_set]
        have : ((grt e f lo r m).set r a).getD r 0 = a := by simp [List.getD_eq_getElem?_getD, List.getElem?_set, gl]
        rw [this]
        congr 1
        rw [hmx]
        apply vAt_eq _ _ _ _ (by omega)
        · intro p q1 q2
          have A := (vAt_max e lo (r - lo + 1)).1 p q1
          have B := (vAt_max e (r + 1) (hi - (r + 1))).1 p
          split <;> by_cases hp : p ≤ r
          · have := A (by omega); omega
          · have := B (by omega) (by omega); omega
          · have := A (by omega); omega
          · have := B (by omega) (by omega); omega
        · obtain ⟨p, p1, p2, p3⟩ := (vAt_max e lo (r - lo + 1)).2
          obtain ⟨q, q1, q2, q3⟩ := (vAt_max e (r + 1) (hi - (r + 1))).2
          split
          · exact ⟨q, by omega, by omega, q3⟩
          · exact ⟨p, by omega, by omega, p3⟩
      · rename_i c
        have hhi : hi = r + 1 := by omega
        subst hhi
        have : ∀ m, grt e f (r + 1) (r + 1) m = m := fun m => by
          cases f with
          | zero => rfl
          | succ f => unfold grt; rw [if_pos (Nat.le_refl _)]
        rw [this, hmx, show r + 1 - lo = r - lo + 1 by omega]
theorem most_eq (l : List Sp) : mostP l = mostN l := by
  unfold mostP mostN
  rw [ord_eq l, mst_eq _ _ _ _ _ (by omega) (by simp)]
end Go.Proofs.Ytkodjmlhmpokoaa
