/- itree: both orders are the same. -/
import Derived.Test.YtkodjmlhmpokoaaItI
namespace Go.Proofs.Ytkodjmlhmpokoaa
open Go Go.RowKit Go.Sort
set_option linter.unusedVariables false
set_option linter.unusedSimpArgs false

def kA (l : List Sp) (i : Nat) : Int := (l.getD i (0, 0)).1
def kB (l : List Sp) (i : Nat) : Int := (l.getD i (0, 0)).2
def lt3 (l : List Sp) (i j : Nat) : Prop := kA l i < kA l j ∨ (kA l i = kA l j ∧ (kB l i < kB l j ∨ (kB l i = kB l j ∧ (i : Int) < j)))
theorem bef_iff (l : List Sp) {i j : Nat} (hi : i < l.length) (hj : j < l.length) : bef l i j = true ↔ lt3 l i j := by
  unfold bef lt3 kA kB ltB
  rw [List.getElem?_eq_getElem hi, List.getElem?_eq_getElem hj]
  simp [List.getD_eq_getElem?_getD, List.getElem?_eq_getElem hi, List.getElem?_eq_getElem hj]
def R3 (l : List Sp) (i j : Nat) : Prop := ¬ lt3 l j i
theorem ordP_sorted (l : List Sp) : (ordP l).Pairwise (R3 l) := by
  have h := (srtI_all l (List.finRange l.length)).2
  unfold ordP
  rw [List.pairwise_map]
  refine h.imp ?_
  intro x y hxy
  rw [cfI_lt, decide_eq_false_iff_not] at hxy
  unfold R3 lt3 kA kB
  unfold ltI kF kT kI at hxy
  simpa [List.getD_eq_getElem?_getD, List.getElem?_eq_getElem x.isLt, List.getElem?_eq_getElem y.isLt] using hxy
theorem insP_ge (q : Nat → Bool) : ∀ n j, insP q n ≤ j → j < n → q j = true
  | 0, j, _, h => by omega
  | n + 1, j, h1, h2 => by
    unfold insP at h1
    split at h1
    · rename_i hq
      by_cases e : j = n
      · rw [e]; exact hq
      · exact insP_ge q n j h1 (by omega)
    · omega
theorem insP_lt (q : Nat → Bool) : ∀ n, insP q n = 0 ∨ q (insP q n - 1) = false
  | 0 => .inl rfl
  | n + 1 => by
    unfold insP
    split
    · exact insP_lt q n
    · rename_i hq
      right
      simpa using hq
theorem ordN_perm (l : List Sp) : ∀ k, (ordN l k).Perm (List.range k)
  | 0 => List.Perm.refl _
  | k + 1 => by
    unfold ordN insN
    rw [List.range_succ]
    generalize insP (qB l (ordN l k) k) k = p
    have h := ordN_perm l k
    generalize ordN l k = o at *
    have e : (List.take p o ++ [k] ++ List.drop p o).Perm (o ++ [k]) := by
      have h1 : (List.take p o ++ [k] ++ List.drop p o).Perm (List.take p o ++ (List.drop p o ++ [k])) := by
        rw [List.append_assoc]
        exact List.Perm.append_left _ List.perm_append_comm
      rw [← List.append_assoc, List.take_append_drop] at h1
      exact h1
    exact e.trans (h.append_right _)
theorem ordN_sorted (l : List Sp) : ∀ k, k ≤ l.length → (ordN l k).Pairwise (R3 l)
  | 0, _ => List.Pairwise.nil
  | k + 1, hk => by
    have ih := ordN_sorted l k (by omega)
    obtain ⟨h1, h2⟩ := ordN_ok l k
    unfold ordN insN
    have hg := insP_ge (qB l (ordN l k) k) k
    have hl := insP_lt (qB l (ordN l k) k) k
    have hp := insP_le (qB l (ordN l k) k) k
    generalize hq : insP (qB l (ordN l k) k) k = p at *
    generalize ordN l k = o at *
    have hb : ∀ j (hj : j < o.length), qB l o k j = bef l k o[j] := fun j hj => by
      unfold qB; rw [List.getElem?_eq_getElem hj]
    have key : ∀ i j (hi : i < o.length) (hj : j < o.length), i < j → R3 l o[i] o[j] := fun i j hi hj hij => (List.pairwise_iff_getElem.1 ih) i j hi hj hij
    have f1 : ∀ j (hj : j < o.length), p ≤ j → lt3 l k o[j] := fun j hj hpj => by
      have := hg j hpj (by omega)
      rw [hb j hj] at this
      exact (bef_iff l (by omega) (by have := h2 _ (List.getElem_mem hj); omega)).1 this
    have f2 : ∀ j (hj : j < o.length), j < p → R3 l o[j] k := fun j hj hjp => by
      rcases hl with hl | hl
      · omega
      · have hpl : p - 1 < o.length := by omega
        rw [hb (p - 1) hpl] at hl
        have h3 : ¬ lt3 l k o[p - 1] := fun h => by
          rw [(bef_iff l (by omega) (by have := h2 _ (List.getElem_mem hpl); omega)).2 h] at hl; cases hl
        by_cases e : j = p - 1
        · subst e; exact h3
        · have h4 := key j (p - 1) hj hpl (by omega)
          unfold R3 lt3 at *
          omega
    rw [List.append_assoc, List.pairwise_append]
    refine ⟨ih.sublist (List.take_sublist _ _), ?_, ?_⟩
    · rw [List.singleton_append, List.pairwise_cons]
      refine ⟨fun a ha => ?_, ih.sublist (List.drop_sublist _ _)⟩
      obtain ⟨j, hj, rfl⟩ := List.mem_iff_getElem.1 ha
      rw [List.getElem_drop]
      have := f1 (p + j) (by simp at hj; omega) (by omega)
      unfold R3 lt3 at *
      omega
    · intro a ha b hb'
      obtain ⟨i, hi, rfl⟩ := List.mem_iff_getElem.1 ha
      rw [List.getElem_take]
      simp only [List.length_take] at hi
      simp only [List.singleton_append, List.mem_cons] at hb'
      rcases hb' with rfl | hb'
      · exact f2 i (by omega) (by omega)
      · obtain ⟨j, hj, rfl⟩ := List.mem_iff_getElem.1 hb'
        rw [List.getElem_drop]
        exact key i (p + j) (by omega) (by simp at hj; omega) (by omega)
theorem ord_eq (l : List Sp) : ordP l = ordN l l.length := by
  refine List.Perm.eq_of_pairwise ?_ (ordP_sorted l) (ordN_sorted l _ (Nat.le_refl _)) ((ordP_perm l).trans (ordN_perm l _).symm)
  intro a b _ _ h1 h2
  unfold R3 lt3 at *
  omega
end Go.Proofs.Ytkodjmlhmpokoaa
