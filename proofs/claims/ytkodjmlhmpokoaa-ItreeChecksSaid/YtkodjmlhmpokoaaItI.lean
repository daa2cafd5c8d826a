/- itree: what the sorted order is. -/
import Derived.Test.YtkodjmlhmpokoaaItF
namespace Go.Proofs.Ytkodjmlhmpokoaa
open Go Go.RowKit Go.Sort
set_option linter.unusedVariables false
set_option linter.unusedSimpArgs false

theorem srtI_all (l : List Sp) (d : List (_root_.Fin l.length)) : (srtI l d).Perm d ∧ (srtI l d).Pairwise (fun x y => ltOf (cfI l) y x = false) := by
  unfold srtI
  split
  · rename_i hl
    letI : Inhabited (_root_.Fin l.length) := ⟨⟨0, hl⟩⟩
    have h := pdq_sorts (ltOf (cfI l)) (swoI l) d.toArray 0 d.toArray.size (Lib.bitLen d.toArray.size) true true (Nat.zero_le _) (Nat.le_refl _) (Or.inl rfl)
    generalize pdq (ltOf (cfI l)) d.toArray 0 d.toArray.size (Lib.bitLen d.toArray.size) true true = e at h
    obtain ⟨⟨h1, _, h2⟩, h3⟩ := h
    constructor
    · have e1 : e.extract 0 d.toArray.size = e := by rw [← h1]; exact Array.extract_size
      have e2 : d.toArray.extract 0 d.toArray.size = d.toArray := Array.extract_size
      rw [e1, e2] at h2
      simpa using h2
    · rw [List.pairwise_iff_getElem]
      intro i j hi hj hij
      have hj' : j < e.size := by simpa using hj
      have hi' : i < e.size := by omega
      have h4 := h3 i j (Nat.zero_le _) hij (by rw [← h1]; exact hj')
      rw [getElem!_pos e i hi', getElem!_pos e j hj'] at h4
      simpa using h4
  · rename_i hl
    have : d = [] := by
      cases d with
      | nil => rfl
      | cons z _ => exact absurd (Nat.lt_of_le_of_lt (Nat.zero_le _) z.isLt) hl
    subst this
    exact ⟨List.Perm.refl _, List.Pairwise.nil⟩
theorem ordP_perm (l : List Sp) : (ordP l).Perm (List.range l.length) := by
  have h := (srtI_all l (List.finRange l.length)).1.map (fun x : _root_.Fin l.length => x.val)
  have e : (List.finRange l.length).map (fun x : _root_.Fin l.length => x.val) = List.range l.length := by
    apply List.ext_getElem
    · simp
    · intro i h1 h2
      simp
  rw [e] at h
  exact h
end Go.Proofs.Ytkodjmlhmpokoaa
