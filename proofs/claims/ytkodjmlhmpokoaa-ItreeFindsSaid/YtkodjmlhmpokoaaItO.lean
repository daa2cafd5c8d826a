/- itree: what an examination finds. -/
import Derived.Test.YtkodjmlhmpokoaaItM
namespace Go.Proofs.Ytkodjmlhmpokoaa
open Go Go.RowKit
set_option linter.unusedVariables false
set_option linter.unusedSimpArgs false

/-- the spans have a time in common -/
def valB (a : Sp) : Bool := (decide (0 ≤ a.1) && decide (a.1 < a.2)) && decide (a.2 ≤ 1000000000000)
def comB (a b : Sp) : Bool := ((valB a && valB b) && decide (a.1 < b.2)) && decide (b.1 < a.2)
def spA (l : List Sp) (i : Nat) : Sp := l.getD i (0, 0)
def oAt (l : List Sp) (p : Nat) : Nat := (ordP l).getD p 0
def mAt (l : List Sp) (p : Nat) : Int := (mostP l).getD p 0
def exv (l : List Sp) (s : Sp) : Nat → Nat → Nat → Nat
  | 0, _, _ => 0
  | f + 1, lo, hi => if hi ≤ lo ∨ mAt l ((lo + hi) / 2) ≤ s.1 then 0 else
    1 + exv l s f lo ((lo + hi) / 2) + (if (spA l (oAt l ((lo + hi) / 2))).1 < s.2 then exv l s f ((lo + hi) / 2 + 1) hi else 0)
def exf (l : List Sp) (s : Sp) : Nat → Nat → Nat → List Nat
  | 0, _, _ => []
  | f + 1, lo, hi => if hi ≤ lo ∨ mAt l ((lo + hi) / 2) ≤ s.1 then [] else
    exf l s f lo ((lo + hi) / 2) ++ (if (spA l (oAt l ((lo + hi) / 2))).1 < s.2 then (if comB (spA l (oAt l ((lo + hi) / 2))) s then [oAt l ((lo + hi) / 2)] else []) ++ exf l s f ((lo + hi) / 2 + 1) hi else [])
/-- the ends of a part of the tree -/
def Agr (l : List Sp) (f lo hi : Nat) : Prop := hi - lo ≤ f ∧ hi ≤ l.length ∧ ∃ m : List Int, hi ≤ m.length ∧ ∀ p, lo ≤ p → p < hi → mAt l p = (grt (endN l (ordP l)) f lo hi m).getD p 0
theorem agr_top (l : List Sp) : Agr l l.length 0 l.length := ⟨by omega, Nat.le_refl _, List.replicate l.length 0, by simp, fun p _ _ => by unfold mAt; rw [mostP_grt]⟩
theorem Agr.root {l : List Sp} {f lo hi : Nat} (h : Agr l f lo hi) (hh : lo < hi) : ∀ p, lo ≤ p → p < hi → endN l (ordP l) p ≤ mAt l ((lo + hi) / 2) := fun p h1 h2 => by
  obtain ⟨hf, hl, m, hm, h⟩ := h
  rw [h _ (by omega) (by omega), grt_root _ f lo hi m hh hf hm]
  exact (vAt_max _ lo (hi - lo)).1 p h1 (by omega)
theorem Agr.left {l : List Sp} {f lo hi : Nat} (h : Agr l (f + 1) lo hi) (hh : lo < hi) : Agr l f lo ((lo + hi) / 2) := by
  obtain ⟨hf, hl, m, hm, h⟩ := h
  refine ⟨by omega, by omega, m.set ((lo + hi) / 2) (vAt (endN l (ordP l)) lo (hi - lo)), by simp; omega, fun p h1 h2 => ?_⟩
  rw [h p h1 (by omega), grt, if_neg (by omega), grt_out _ f _ _ _ _ (by omega)]
theorem Agr.right {l : List Sp} {f lo hi : Nat} (h : Agr l (f + 1) lo hi) (hh : lo < hi) : Agr l f ((lo + hi) / 2 + 1) hi := by
  obtain ⟨hf, hl, m, hm, h⟩ := h
  refine ⟨by omega, by omega, grt (endN l (ordP l)) f lo ((lo + hi) / 2) (m.set ((lo + hi) / 2) (vAt (endN l (ordP l)) lo (hi - lo))), by simp [grt_len]; omega, fun p h1 h2 => ?_⟩
  rw [h p (by omega) h2, grt, if_neg (by omega)]
theorem spA_pos (l : List Sp) (p : Nat) (hp : p < l.length) : (ordP l)[p]? = some (oAt l p) ∧ oAt l p < l.length ∧ l[oAt l p]? = some (spA l (oAt l p)) ∧ endN l (ordP l) p = (spA l (oAt l p)).2 := by
  have h1 : p < (ordP l).length := by rw [ordP_len]; exact hp
  have e1 := List.getElem?_eq_getElem h1
  have h0 : oAt l p = (ordP l)[p] := by simp [oAt, List.getD_eq_getElem?_getD, e1]
  have h2 := ordP_lt l _ (List.getElem_mem h1)
  rw [← h0] at e1 h2
  have e2 := List.getElem?_eq_getElem h2
  have e3 : l[oAt l p]? = some (spA l (oAt l p)) := by rw [e2]; simp [spA, List.getD_eq_getElem?_getD, e2]
  refine ⟨e1, h2, e3, ?_⟩
  unfold endN
  rw [e1]
  simp only [e3]
theorem spA_sorted (l : List Sp) (p q : Nat) (hpq : p ≤ q) (hq : q < l.length) : (spA l (oAt l p)).1 ≤ (spA l (oAt l q)).1 := by
  by_cases e : p = q
  · rw [e]; exact Int.le_refl _
  · have h := List.pairwise_iff_getElem.1 (ordP_sorted l) p q (by rw [ordP_len]; omega) (by rw [ordP_len]; omega) (by omega)
    have a1 : (ordP l)[p]'(by rw [ordP_len]; omega) = oAt l p := by simp [oAt, List.getD_eq_getElem?_getD, List.getElem?_eq_getElem (show p < (ordP l).length by rw [ordP_len]; omega)]
    have a2 : (ordP l)[q]'(by rw [ordP_len]; omega) = oAt l q := by simp [oAt, List.getD_eq_getElem?_getD, List.getElem?_eq_getElem (show q < (ordP l).length by rw [ordP_len]; omega)]
    rw [a1, a2] at h
    unfold R3 lt3 kA kB at h
    unfold spA
    omega
theorem comB_lt {a b : Sp} (h : comB a b = true) : a.1 < b.2 ∧ b.1 < a.2 := by
  unfold comB at h
  simp only [Bool.and_eq_true, decide_eq_true_eq] at h
  exact ⟨h.1.2, h.2⟩
/-- what is found: all positions with a time in common, in order -/
theorem exf_eq (l : List Sp) (s : Sp) : ∀ f lo hi, Agr l f lo hi → exf l s f lo hi = ((List.range' lo (hi - lo)).filter (fun p => comB (spA l (oAt l p)) s)).map (oAt l)
  | 0, lo, hi, h => by
    have := h.1
    rw [show hi - lo = 0 by omega]; rfl
  | f + 1, lo, hi, h => by
    unfold exf
    by_cases hh : hi ≤ lo
    · rw [if_pos (.inl hh), show hi - lo = 0 by omega]; rfl
    · have hlo : lo < hi := by omega
      have hr := h.root hlo
      have hn := h.2.1
      by_cases hm : mAt l ((lo + hi) / 2) ≤ s.1
      · rw [if_pos (.inr hm)]
        have : (List.range' lo (hi - lo)).filter (fun p => comB (spA l (oAt l p)) s) = [] := by
          rw [List.filter_eq_nil_iff]
          intro p hp hc
          rw [List.mem_range'_1] at hp
          have h1 := hr p hp.1 (by omega)
          rw [(spA_pos l p (by omega)).2.2.2] at h1
          have := (comB_lt hc).2
          omega
        rw [this]; rfl
      · rw [if_neg (by omega), exf_eq l s f _ _ (h.left hlo)]
        have hR := exf_eq l s f _ _ (h.right hlo)
        have r1 : lo ≤ (lo + hi) / 2 := by omega
        have r2 : (lo + hi) / 2 < hi := by omega
        generalize (lo + hi) / 2 = r at *
        have hsp : List.range' lo (hi - lo) = List.range' lo (r - lo) ++ ([r] ++ List.range' (r + 1) (hi - (r + 1))) := by
          rw [show hi - lo = (r - lo) + (1 + (hi - (r + 1))) by omega, ← List.range'_append_1 (s := lo) (m := r - lo), ← List.range'_append_1 (s := lo + (r - lo)) (m := 1)]
          rw [show lo + (r - lo) = r by omega]
          rfl
        rw [hsp, List.filter_append, List.filter_append, List.map_append, List.map_append]
        congr 1
        by_cases hF : (spA l (oAt l r)).1 < s.2
        · rw [if_pos hF, hR]
          congr 1
          by_cases hc : comB (spA l (oAt l r)) s = true
          · rw [if_pos hc]; simp [hc]
          · rw [if_neg hc]; simp [hc]
        · rw [if_neg hF]
          have hz : ∀ p, r ≤ p → p < hi → ¬ comB (spA l (oAt l p)) s = true := fun p p1 p2 hc => by
            have h1 := spA_sorted l r p p1 (by omega)
            have := (comB_lt hc).1
            omega
          have z1 : ([r] : List Nat).filter (fun p => comB (spA l (oAt l p)) s) = [] := by
            simp [hz r (Nat.le_refl _) r2]
          have z2 : (List.range' (r + 1) (hi - (r + 1))).filter (fun p => comB (spA l (oAt l p)) s) = [] := by
            rw [List.filter_eq_nil_iff]
            intro p hp
            rw [List.mem_range'_1] at hp
            exact hz p (by omega) (by omega)
          rw [z1, z2]
          rfl
theorem ordP_map (l : List Sp) : (List.range l.length).map (oAt l) = ordP l := by
  apply List.ext_getElem
  · simp [ordP_len]
  · intro i h1 h2
    simp [oAt, List.getD_eq_getElem?_getD, List.getElem?_eq_getElem h2]
def comL (l : List Sp) (s : Sp) : List Nat := (List.range l.length).filter fun i => comB (spA l i) s
theorem exf_perm (l : List Sp) (s : Sp) : (exf l s l.length 0 l.length).Perm (comL l s) := by
  rw [exf_eq l s _ _ _ (agr_top l), Nat.sub_zero, ← List.range_eq_range']
  have h := (ordP_perm l).filter (fun i => comB (spA l i) s)
  rw [← ordP_map l, List.filter_map] at h
  exact h
/-- how many are visited -/
theorem exv_le (l : List Sp) (s : Sp) : ∀ f lo hi, hi - lo ≤ f → exv l s f lo hi ≤ hi - lo
  | 0, lo, hi, h => Nat.zero_le _
  | f + 1, lo, hi, h => by
    unfold exv
    split
    · exact Nat.zero_le _
    · rename_i hc
      have h1 := exv_le l s f lo ((lo + hi) / 2) (by omega)
      have h2 := exv_le l s f ((lo + hi) / 2 + 1) hi (by omega)
      split <;> omega
theorem exf_le (l : List Sp) (s : Sp) : ∀ f lo hi, (exf l s f lo hi).length ≤ exv l s f lo hi
  | 0, lo, hi => Nat.le_refl _
  | f + 1, lo, hi => by
    unfold exv exf
    split
    · exact Nat.le_refl _
    · have h1 := exf_le l s f lo ((lo + hi) / 2)
      have h2 := exf_le l s f ((lo + hi) / 2 + 1) hi
      split
      · split <;> simp <;> omega
      · simp; omega
end Go.Proofs.Ytkodjmlhmpokoaa
