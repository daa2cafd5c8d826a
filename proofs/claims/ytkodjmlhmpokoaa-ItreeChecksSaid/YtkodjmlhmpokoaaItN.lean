/- itree: what a trim at the end of a round or a call keeps. -/
import Derived.Test.YtkodjmlhmpokoaaItM
namespace Go.Proofs.Ytkodjmlhmpokoaa
open Go Go.RowKit
set_option linter.unusedVariables false
set_option linter.unusedSimpArgs false

theorem trimT_ge {sl : List PV} {bl : Blks} : ∀ (f t : Nat), t ≤ trimT sl bl f t
  | 0, t => Nat.le_refl _
  | f + 1, t => by
    unfold trimT
    split
    · exact Nat.le_refl _
    · exact Nat.le_trans (Nat.le_succ t) (trimT_ge f (t + 1))
/-- an object that lies before the cut, which needs a block, keeps it -/
theorem norm_pair {keep : List Nat} {n0 : Nat} {sl : List PV} {bl : Blks} {a : Nat} {x : Blk} (ha : a < n0) (hl : n0 ≤ bl.length) (hx : bl[a]? = some (some x)) :
    ∃ t, n0 ≤ t ∧ t ≤ bl.length ∧ (norm keep n0 ⟨sl, bl⟩).bl = bl.take t ∧ (∀ b, (∀ t, (x.flat || x.rows.all (PV.lt.ltL t)) = true → b < t) → b < bl.length → (bl.take t)[b]? = bl[b]?) ∧ (norm keep n0 ⟨sl, bl⟩).sl = forget keep 0 sl ∧ (PV.lt.ltL t (forget keep 0 sl) = true ∨ t = bl.length) := by
  have h0 := trimT_ge (sl := forget keep 0 sl) (bl := bl) (bl.length - n0) n0
  unfold norm trimB
  simp only
  generalize trimT (forget keep 0 sl) bl (bl.length - n0) n0 = t at *
  split
  · rename_i hc
    simp only [Bool.and_eq_true] at hc
    by_cases htl : t ≤ bl.length
    · refine ⟨t, h0, htl, rfl, fun b hb hbl => ?_, rfl, .inl hc.1⟩
      have h2 : ∀ (l : Blks) (i : Nat), blksLt t l = true → l[i]? = some (some x) → (x.flat || x.rows.all (PV.lt.ltL t)) = true := by
        intro l
        induction l with
        | nil => intro i _ h; simp at h
        | cons y l ih =>
          intro i h1 h
          cases i with
          | zero =>
            simp at h; subst h
            simp only [blksLt, Bool.and_eq_true] at h1
            exact h1.1
          | succ i =>
            simp at h
            cases y with
            | none => exact ih i (by simpa [blksLt] using h1) h
            | some y => simp only [blksLt, Bool.and_eq_true] at h1; exact ih i h1.2 h
      have h3 := hb t (h2 _ a hc.2 (by rw [List.getElem?_take_of_lt (by omega)]; exact hx))
      rw [List.getElem?_take_of_lt h3]
    · refine ⟨bl.length, hl, Nat.le_refl _, ?_, fun b _ _ => by rw [List.take_of_length_le (Nat.le_refl _)], rfl, .inr rfl⟩
      simp only
      rw [List.take_of_length_le (by omega), List.take_of_length_le (Nat.le_refl _)]
  · refine ⟨bl.length, hl, Nat.le_refl _, ?_, fun b _ _ => by rw [List.take_of_length_le (Nat.le_refl _)], rfl, .inr rfl⟩
    simp only
    rw [List.take_of_length_le (Nat.le_refl _)]
end Go.Proofs.Ytkodjmlhmpokoaa
