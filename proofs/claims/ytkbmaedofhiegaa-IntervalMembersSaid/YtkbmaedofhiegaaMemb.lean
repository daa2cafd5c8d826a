/- Meets and hulls: members and ends. -/
import Derived.Test.YtkbmaedofhiegaaBoxes
import Derived.Deep.Cut
import Derived.Deep.CutRange
namespace Go.Proofs.Ytkbmaedofhiegaa
open Go.ChangeShapes Go.WideShapes Go.ChangeAt Go.RowKit
theorem meetF_comm (a b c d : Int) : meetF c d a b = meetF a b c d := by
  unfold meetF
  rw [Int.max_comm c a, Int.min_comm d b]
  by_cases h1 : vld a b = true <;> by_cases h2 : vld c d = true <;> simp [h1, h2]
theorem hullF_comm (a b c d : Int) : hullF c d a b = hullF a b c d := by
  unfold hullF
  rw [Int.min_comm c a, Int.max_comm d b]
  by_cases h1 : vld a b = true <;> by_cases h2 : vld c d = true <;> simp [h1, h2]
theorem vld_of {a b : Int} (h : (-1000000000000000 ≤ a ∧ a ≤ 1000000000000000) ∧ (-1000000000000000 ≤ b ∧ b ≤ 1000000000000000) ∧ a ≤ b) : vld a b = true := vld_mk h.1 h.2.1 h.2.2
theorem member_meet (a b c d n : Int) : (withinF a b n && withinF c d n) = ((meetF a b c d).2.2 && withinF (meetF a b c d).1 (meetF a b c d).2.1 n) := by
  unfold meetF
  by_cases h : vld a b = true ∧ vld c d = true ∧ max a c ≤ min b d
  · rw [if_pos h]
    have k1 := vld_range h.1
    have k2 := vld_range h.2.1
    have hv : vld (max a c) (min b d) = true := vld_mk (by omega) (by omega) h.2.2
    unfold withinF
    rw [h.1, h.2.1]
    simp only [hv, Bool.true_and]
    rw [Bool.eq_iff_iff]
    simp
    omega
  · rw [if_neg h]
    simp only [Bool.false_and]
    unfold withinF
    by_cases h1 : vld a b = true
    · by_cases h2 : vld c d = true
      · have : ¬ max a c ≤ min b d := fun e => h ⟨h1, h2, e⟩
        rw [h1, h2, Bool.eq_false_iff]
        simp
        omega
      · simp [h2]
    · simp [h1]
theorem member_hull (a b c d n : Int) : (withinF a b n || withinF c d n) = true → withinF (hullF a b c d).1 (hullF a b c d).2 n = true := by
  unfold hullF withinF
  by_cases h1 : vld a b = true
  · by_cases h2 : vld c d = true
    · have k1 := vld_range h1
      have k2 := vld_range h2
      have hv : vld (min a c) (max b d) = true := vld_mk (by omega) (by omega) (by omega)
      rw [h1, h2]
      simp [hv]
      omega
    · simp [h1, h2]
  · by_cases h2 : vld c d = true
    · simp [h1, h2]
    · simp [h1, h2]
theorem hull_ends (a b c d : Int) : (((hullF a b c d).1 = a ∨ (hullF a b c d).1 = c) ∧ ((hullF a b c d).2 = b ∨ (hullF a b c d).2 = d)) ∨ (vld a b = false ∧ vld c d = false ∧ (hullF a b c d).1 = 0 ∧ (hullF a b c d).2 = 0) := by
  unfold hullF
  by_cases h1 : vld a b = true
  · by_cases h2 : vld c d = true
    · left; rw [if_pos h1, if_pos h2]; exact ⟨by simp only; omega, by simp only; omega⟩
    · left; rw [if_pos h1, if_neg h2]; exact ⟨.inl rfl, .inl rfl⟩
  · by_cases h2 : vld c d = true
    · left; rw [if_neg h1, if_pos h2]; exact ⟨.inr rfl, .inr rfl⟩
    · right; rw [if_neg h1, if_neg h2]; exact ⟨by simpa using h1, by simpa using h2, rfl, rfl⟩
end Go.Proofs.Ytkbmaedofhiegaa
