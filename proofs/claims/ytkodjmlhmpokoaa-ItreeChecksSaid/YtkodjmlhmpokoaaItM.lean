/- itree: what ItreeSorts asks of the index. -/
import Derived.Test.YtkodjmlhmpokoaaItK
namespace Go.Proofs.Ytkodjmlhmpokoaa
open Go Go.RowKit
set_option linter.unusedVariables false
set_option linter.unusedSimpArgs false

theorem vAt_mono (e : Nat → Int) (lo hi a b : Nat) (h1 : lo ≤ a) (h2 : a < b) (h3 : b ≤ hi) : vAt e a (b - a) ≤ vAt e lo (hi - lo) := by
  obtain ⟨_, p, p1, p2, p3⟩ := vAt_max e a (b - a)
  rw [p3]
  exact (vAt_max e lo (hi - lo)).1 p (by omega) (by omega)
theorem grt_bd (e : Nat → Int) : ∀ f lo hi m p, hi - lo ≤ f → hi ≤ m.length → lo ≤ p → p < hi → e p ≤ (grt e f lo hi m).getD p 0 ∧ (grt e f lo hi m).getD p 0 ≤ vAt e lo (hi - lo)
  | 0, lo, hi, m, p, hf, _, h1, h2 => by omega
  | f + 1, lo, hi, m, p, hf, hm, h1, h2 => by
    by_cases hp : p = (lo + hi) / 2
    · rw [hp, grt_root e (f + 1) lo hi m (by omega) hf hm]
      exact ⟨(vAt_max e lo (hi - lo)).1 _ (by omega) (by omega), Int.le_refl _⟩
    · unfold grt
      rw [if_neg (by omega)]
      by_cases hq : p < (lo + hi) / 2
      · rw [grt_out e f _ _ _ _ (by omega)]
        obtain ⟨a, b⟩ := grt_bd e f lo ((lo + hi) / 2) (m.set ((lo + hi) / 2) (vAt e lo (hi - lo))) p (by omega) (by simp; omega) h1 hq
        exact ⟨a, Int.le_trans b (vAt_mono e lo hi _ _ (Nat.le_refl _) (by omega) (by omega))⟩
      · obtain ⟨a, b⟩ := grt_bd e f ((lo + hi) / 2 + 1) hi (grt e f lo ((lo + hi) / 2) (m.set ((lo + hi) / 2) (vAt e lo (hi - lo)))) p (by omega) (by simp [grt_len]; omega) (by omega) h2
        exact ⟨a, Int.le_trans b (vAt_mono e lo hi _ _ (by omega) (by omega) (Nat.le_refl _))⟩
theorem mostP_grt (l : List Sp) : mostP l = grt (endN l (ordP l)) l.length 0 l.length (List.replicate l.length 0) := by
  unfold mostP
  rw [mst_eq _ _ _ _ _ (by omega) (by simp)]
theorem mostP_len (l : List Sp) : (mostP l).length = l.length := by rw [mostP_grt, grt_len]; simp
theorem mostP_bd (l : List Sp) (p : Nat) (hp : p < l.length) : endN l (ordP l) p ≤ (mostP l).getD p 0 ∧ (mostP l).getD p 0 ≤ (mostP l).getD (l.length / 2) 0 := by
  rw [mostP_grt]
  have h := grt_bd (endN l (ordP l)) l.length 0 l.length (List.replicate l.length 0) p (by omega) (by simp) (by omega) hp
  have r := grt_root (endN l (ordP l)) l.length 0 l.length (List.replicate l.length 0) (by omega) (by omega) (by simp)
  rw [Nat.zero_add] at r
  rw [r]
  exact h
theorem ordP_len (l : List Sp) : (ordP l).length = l.length := by have := (ordP_perm l).length_eq; simpa using this
theorem ordP_lt (l : List Sp) : ∀ i ∈ ordP l, i < l.length := fun i hi => by
  have := (ordP_perm l).mem_iff.1 hi
  simpa using this
theorem ordP_nodup (l : List Sp) : (ordP l).Nodup := (ordP_perm l).nodup_iff.2 List.nodup_range
/-- the facts on a position -/
theorem pos_facts (l : List Sp) (p : Nat) (hp : p < l.length) : ∃ i s m g, (ordP l)[p]? = some i ∧ i < l.length ∧ l[i]? = some s ∧ (mostP l)[p]? = some m ∧ (mostP l)[l.length / 2]? = some g ∧ s.2 ≤ m ∧ m ≤ g := by
  have h1 : p < (ordP l).length := by rw [ordP_len]; exact hp
  have h2 := ordP_lt l _ (List.getElem_mem h1)
  have h3 : p < (mostP l).length := by rw [mostP_len]; exact hp
  have h4 : l.length / 2 < (mostP l).length := by rw [mostP_len]; omega
  have e1 := List.getElem?_eq_getElem h1
  have e2 := List.getElem?_eq_getElem h2
  obtain ⟨b1, b2⟩ := mostP_bd l p hp
  refine ⟨_, _, _, _, e1, h2, e2, List.getElem?_eq_getElem h3, List.getElem?_eq_getElem h4, ?_, ?_⟩
  · have : endN l (ordP l) p = l[(ordP l)[p]].2 := by unfold endN; rw [e1]; simp only [e2]
    rw [this] at b1
    simpa [List.getD_eq_getElem?_getD, List.getElem?_eq_getElem h3] using b1
  · simpa [List.getD_eq_getElem?_getD, List.getElem?_eq_getElem h3, List.getElem?_eq_getElem h4] using b2
/-- two neighbours -/
theorem nbr_facts (l : List Sp) (p : Nat) (hp : p + 1 < l.length) {i j : Nat} {s t : Sp} (hi : (ordP l)[p]? = some i) (hj : (ordP l)[p + 1]? = some j) (hs : l[i]? = some s) (ht : l[j]? = some t) : ¬ t.1 < s.1 ∧ (s.1 = t.1 → ¬ t.2 < s.2) ∧ (s.1 = t.1 → s.2 = t.2 → ¬ (j : Int) < i) := by
  have h := List.pairwise_iff_getElem.1 (ordP_sorted l) p (p + 1) (by rw [ordP_len]; omega) (by rw [ordP_len]; omega) (by omega)
  have a1 : (ordP l)[p]'(by rw [ordP_len]; omega) = i := by
    rw [List.getElem?_eq_getElem (by rw [ordP_len]; omega)] at hi; exact Option.some.inj hi
  have a2 : (ordP l)[p + 1]'(by rw [ordP_len]; omega) = j := by
    rw [List.getElem?_eq_getElem (by rw [ordP_len]; omega)] at hj; exact Option.some.inj hj
  rw [a1, a2] at h
  unfold R3 lt3 kA kB at h
  simp only [List.getD_eq_getElem?_getD, hs, ht, Option.getD_some] at h
  refine ⟨?_, fun _ => ?_, fun _ _ => ?_⟩ <;> omega
/-- what was seen: not the next one -/
def seenB (l : List Sp) (p : Nat) : List Bool := (List.range l.length).map fun i => decide (i ∈ (ordP l).take p)
theorem seenB_len (l : List Sp) (p : Nat) : (seenB l p).length = l.length := by simp [seenB]
theorem seenB_next (l : List Sp) (p : Nat) {i : Nat} (hi : (ordP l)[p]? = some i) (hl : i < l.length) : (seenB l p)[i]? = some false := by
  have hn : i ∉ (ordP l).take p := fun hm => by
    obtain ⟨q, hq, e⟩ := List.mem_iff_getElem.1 hm
    rw [List.getElem_take] at e
    simp only [List.length_take] at hq
    have hp : p < (ordP l).length := by
      rw [List.getElem?_eq_some_iff] at hi; exact hi.1
    have e2 : (ordP l)[p] = i := by rw [List.getElem?_eq_getElem hp] at hi; exact Option.some.inj hi
    have := List.pairwise_iff_getElem.1 (ordP_nodup l) q p (by omega) hp (by omega)
    exact this (by rw [e, e2])
  simp [seenB, hl, hn]
theorem seenB_set (l : List Sp) (p : Nat) {i : Nat} (hi : (ordP l)[p]? = some i) : (seenB l p).set i true = seenB l (p + 1) := by
  apply List.ext_getElem
  · simp [seenB]
  · intro k h1 h2
    rw [List.getElem_set]
    have ht : (ordP l).take (p + 1) = (ordP l).take p ++ [i] := by
      rw [List.take_add_one, hi]; rfl
    simp only [seenB, List.getElem_map, List.getElem_range, ht, List.mem_append, List.mem_singleton]
    by_cases c : i = k
    · simp [c]
    · have : ¬ k = i := fun h => c h.symm
      simp [c, this]
theorem seenB_zero (l : List Sp) : seenB l 0 = List.replicate l.length false := by
  apply List.ext_getElem
  · simp [seenB]
  · intro k h1 h2
    simp [seenB]
end Go.Proofs.Ytkodjmlhmpokoaa
