/- SymMerge: how two sorted pieces are cut, and what the search needs. -/
import Derived.Test.YtalmhggbdfjalaaStE
namespace Go.Proofs.Ytalmhggbdfjalaa
open Go Go.RowKit
set_option linter.unusedVariables false
set_option linter.unusedSimpArgs false

theorem Srt.at' {le : Rw → Rw → Bool} (o : Ordr le) {Z : List Rw} (h : Srt le Z) {i j : Nat} {x y : Rw} (hij : i ≤ j) (hx : Z[i]? = some x) (hy : Z[j]? = some y) : le x y = true := by
  rcases Nat.lt_or_ge i j with h1 | h1
  · exact h.at h1 hx hy
  · obtain rfl : i = j := by omega
    rw [hx] at hy
    cases hy
    exact o.refl x
section
variable {le : Rw → Rw → Bool} {P Al Bl Q D : List Rw} {a m e : Nat}
theorem get_A (hD : D = P ++ Al ++ Bl ++ Q) (ha : a = P.length) (hm : m = a + Al.length) {c : Nat} (h1 : a ≤ c) (h2 : c < m) : ∃ x, Al[c - a]? = some x ∧ D[c]? = some x := by
  have h := List.getElem?_eq_getElem (l := Al) (i := c - a) (by omega)
  refine ⟨_, h, ?_⟩
  rw [hD, List.append_assoc, List.getElem?_append_left (by rw [List.length_append]; omega), List.getElem?_append_right (by omega), ← ha, h]
theorem get_B (hD : D = P ++ Al ++ Bl ++ Q) (ha : a = P.length) (hm : m = a + Al.length) (he : e = m + Bl.length) {c : Nat} (h1 : m ≤ c) (h2 : c < e) : ∃ x, Bl[c - m]? = some x ∧ D[c]? = some x := by
  have h := List.getElem?_eq_getElem (l := Bl) (i := c - m) (by omega)
  refine ⟨_, h, ?_⟩
  rw [hD, List.getElem?_append_left (by simp only [List.length_append]; omega), List.getElem?_append_right (by rw [List.length_append]; omega), List.length_append, ← ha, ← hm, h]
theorem sym_mono (o : Ordr le) (hD : D = P ++ Al ++ Bl ++ Q) (hSA : Srt le Al) (hSB : Srt le Bl) (ha : a = P.length) (hm : m = a + Al.length) (he : e = m + Bl.length) (d nn q lo hi : Nat) (hd : d = (a + e) / 2) (hnn : nn = d + m) (hq : q + 1 = nn)
    (hlo : (d < m ∧ lo = nn - e ∧ hi = d) ∨ (m ≤ d ∧ lo = a ∧ hi = m)) : ∀ c k, lo ≤ c → c ≤ k → k < hi → le (D[k]?.getD []) (D[q - k]?.getD []) = true → le (D[c]?.getD []) (D[q - c]?.getD []) = true := by
  intro c k h1 h2 h3 h
  obtain ⟨x, x1, x2⟩ := get_A hD ha hm (c := c) (by omega) (by omega)
  obtain ⟨y, y1, y2⟩ := get_A hD ha hm (c := k) (by omega) (by omega)
  obtain ⟨u, u1, u2⟩ := get_B hD ha hm he (c := q - k) (by omega) (by omega)
  obtain ⟨w, w1, w2⟩ := get_B hD ha hm he (c := q - c) (by omega) (by omega)
  rw [y2, u2] at h
  rw [x2, w2]
  simp only [Option.getD_some] at h ⊢
  exact o.tr (hSA.at' o (by omega) x1 y1) (o.tr h (hSB.at' o (by omega) u1 w1))
theorem sym_cut (o : Ordr le) (hD : D = P ++ Al ++ Bl ++ Q) (hSA : Srt le Al) (hSB : Srt le Bl) (ha : a = P.length) (hm : m = a + Al.length) (he : e = m + Bl.length) (d nn q lo hi p : Nat) (hd : d = (a + e) / 2) (hnn : nn = d + m) (hq : q + 1 = nn)
    (hlo : (d < m ∧ lo = nn - e ∧ hi = d) ∨ (m ≤ d ∧ lo = a ∧ hi = m)) (h1 : lo ≤ p) (h2 : p ≤ hi)
    (ht : ∀ h, lo ≤ h → h < p → le (D[h]?.getD []) (D[q - h]?.getD []) = true) (hf : ∀ h, p ≤ h → h < hi → le (D[h]?.getD []) (D[q - h]?.getD []) = false) :
    ∃ A1 A2 B1 B2, Al = A1 ++ A2 ∧ Bl = B1 ++ B2 ∧ a + A1.length = p ∧ m + B1.length = nn - p ∧ (∀ x ∈ A1, ∀ y ∈ B2, le x y = true) ∧ ∀ y ∈ B1, ∀ x ∈ A2, le x y = false := by
  refine ⟨Al.take (p - a), Al.drop (p - a), Bl.take (nn - p - m), Bl.drop (nn - p - m), (List.take_append_drop _ _).symm, (List.take_append_drop _ _).symm, by rw [List.length_take]; omega, by rw [List.length_take]; omega, ?_, ?_⟩
  · intro x hx y hy
    obtain ⟨i, hi'⟩ := List.mem_iff_getElem?.1 hx
    obtain ⟨j, hj'⟩ := List.mem_iff_getElem?.1 hy
    rw [List.getElem?_take] at hi'
    rw [List.getElem?_drop] at hj'
    split at hi'
    · rename_i hlt
      have := (List.getElem?_eq_some_iff.1 hj').1
      have hp := ht (p - 1) (by omega) (by omega)
      obtain ⟨u, u1, u2⟩ := get_A hD ha hm (c := p - 1) (by omega) (by omega)
      obtain ⟨w, w1, w2⟩ := get_B hD ha hm he (c := q - (p - 1)) (by omega) (by omega)
      rw [u2, w2] at hp
      simp only [Option.getD_some] at hp
      exact o.tr (hSA.at' o (by omega) hi' u1) (o.tr hp (hSB.at' o (by omega) w1 hj'))
    · cases hi'
  · intro y hy x hx
    obtain ⟨i, hi'⟩ := List.mem_iff_getElem?.1 hx
    obtain ⟨j, hj'⟩ := List.mem_iff_getElem?.1 hy
    rw [List.getElem?_take] at hj'
    rw [List.getElem?_drop] at hi'
    split at hj'
    · rename_i hlt
      have := (List.getElem?_eq_some_iff.1 hi').1
      have hp := hf p (Nat.le_refl _) (by omega)
      obtain ⟨u, u1, u2⟩ := get_A hD ha hm (c := p) (by omega) (by omega)
      obtain ⟨w, w1, w2⟩ := get_B hD ha hm he (c := q - p) (by omega) (by omega)
      rw [u2, w2] at hp
      simp only [Option.getD_some] at hp
      cases hxy : le x y with
      | false => rfl
      | true =>
        rw [o.tr (hSA.at' o (by omega) u1 hi') (o.tr hxy (hSB.at' o (by omega) hj' w1))] at hp
        cases hp
    · cases hj'
end
end Go.Proofs.Ytalmhggbdfjalaa
