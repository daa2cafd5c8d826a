/- Boxes that live on over calls, and what is known of a stretched duration, in linear words. -/
import Derived.Test.YtkbmaedofhiegaaAwake
namespace Go.Proofs.Ytkbmaedofhiegaa
open Go.ChangeShapes Go.WideShapes Go.ChangeAt Go.RowKit

/-- a Lo and a Hi of a stretched duration, in linear words; q is the duration times the drift -/
structure Lin (d q x y : Int) : Prop where
  pos : 0 ≤ d → 0 ≤ q ∧ q ≤ 10000 * d ∧ 1000000 * x ≤ 1000000 * d - q ∧ 1000000 * d - q < 1000000 * x + 1000000 ∧ 1000000 * y - 1000000 < 1000000 * d + q ∧ 1000000 * d + q ≤ 1000000 * y
  neg : d < 0 → q ≤ 0 ∧ 10000 * d ≤ q ∧ 1000000 * x ≤ 1000000 * d + q ∧ 1000000 * d + q < 1000000 * x + 1000000 ∧ 1000000 * y - 1000000 < 1000000 * d - q ∧ 1000000 * d - q ≤ 1000000 * y
theorem stretch_ok {d p : Int} (h : ¬ (d < -1000000000000 ∨ 1000000000000 < d ∨ p < 0 ∨ 10000 < p)) : ∃ x y, stretchF d p = (x, y, true) ∧ Lin d (d * p) x y := by
  have e1 : d * (1000000 - p) = 1000000 * d - d * p := by rw [Int.mul_sub, Int.mul_comm d 1000000]
  have e2 : d * (1000000 + p) = 1000000 * d + d * p := by rw [Int.mul_add, Int.mul_comm d 1000000]
  have e3 : -d * (1000000 + p) = -(1000000 * d + d * p) := by rw [Int.neg_mul, e2]
  have e4 : -d * (1000000 - p) = -(1000000 * d - d * p) := by rw [Int.neg_mul, e1]
  have hp : 0 ≤ p ∧ p ≤ 10000 := by omega
  unfold stretchF
  rw [if_neg h]
  by_cases hd : 0 ≤ d
  · rw [if_pos hd]
    have h1 : 0 ≤ d * p := Int.mul_nonneg hd hp.1
    have h2 : d * p ≤ d * 10000 := Int.mul_le_mul_of_nonneg_left hp.2 hd
    refine ⟨_, _, rfl, ⟨fun _ => ?_, fun hn => absurd hd (by omega)⟩⟩
    unfold loF hiF mill
    rw [e1, e3]
    omega
  · rw [if_neg hd]
    have h1 : 0 ≤ -d * p := Int.mul_nonneg (by omega) hp.1
    have h2 : -d * p ≤ -d * 10000 := Int.mul_le_mul_of_nonneg_left hp.2 (by omega)
    rw [Int.neg_mul] at h1 h2
    refine ⟨_, _, rfl, ⟨fun hn => absurd hn hd, fun _ => ?_⟩⟩
    unfold loF hiF mill
    have e5 : - -d * (1000000 + p) = 1000000 * d + d * p := by rw [show - -d = d by omega, e2]
    rw [e5, e4]
    omega
theorem stretch_no {d p : Int} (h : d < -1000000000000 ∨ 1000000000000 < d ∨ p < 0 ∨ 10000 < p) : stretchF d p = (0, 0, false) := by unfold stretchF; rw [if_pos h]
end Go.Proofs.Ytkbmaedofhiegaa
