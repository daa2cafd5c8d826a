/- ring: bytes written round the end, as one copy or two. -/
import Derived.Test.YthoncigfbhinlaaRhD
namespace Go.Proofs.Ythoncigfbhinlaa
open Go Go.RowKit
set_option linter.unusedVariables false
set_option linter.unusedSimpArgs false
set_option maxHeartbeats 2000000

theorem back_eq {n a j : Nat} (ha : a < n) (hj : j < n) : (j + n - a) % n = if a ≤ j then j - a else j + n - a := by
  split
  · have : j + n - a = (j - a) + n := by omega
    rw [this, Nat.add_mod_right, Nat.mod_eq_of_lt (by omega)]
  · exact Nat.mod_eq_of_lt (by omega)
theorem wrF_one {D G : List Nat} {T a : Nat} (ha : T % D.length = a) (h0 : 0 < D.length) (h : G.length ≤ D.length - a) : wrF D T G G.length = D.take a ++ G ++ D.drop (a + G.length) := by
  have hlt : a < D.length := by rw [← ha]; exact Nat.mod_lt _ h0
  apply List.ext_getElem?
  intro j
  by_cases hj : j < D.length
  · rw [wrF_get D G T G.length (by omega) (Nat.le_refl _) j hj, ha, back_eq hlt hj]
    rw [List.getElem?_append, List.getElem?_append, List.length_append, List.length_take, Nat.min_eq_left (by omega)]
    by_cases c1 : a ≤ j
    · rw [if_pos c1]
      by_cases c2 : j - a < G.length
      · rw [if_pos c2, if_pos (by omega), if_neg (by omega)]
      · rw [if_neg c2, if_neg (by omega), List.getElem?_drop]
        congr 1
        omega
    · rw [if_neg c1, if_neg (by omega), if_pos (by omega), if_pos (by omega), List.getElem?_take_of_lt (by omega)]
  · rw [List.getElem?_eq_none (by rw [wrF_len]; omega), List.getElem?_eq_none (by simp; omega)]
theorem wrF_two {D G : List Nat} {T a : Nat} (ha : T % D.length = a) (h0 : 0 < D.length) (h : D.length - a < G.length) (h1 : G.length ≤ D.length) : wrF D T G G.length = G.drop (D.length - a) ++ (D.take a ++ G.take (D.length - a)).drop (G.length - (D.length - a)) := by
  have hlt : a < D.length := by rw [← ha]; exact Nat.mod_lt _ h0
  apply List.ext_getElem?
  intro j
  by_cases hj : j < D.length
  · rw [wrF_get D G T G.length (by omega) (Nat.le_refl _) j hj, ha, back_eq hlt hj]
    rw [List.getElem?_append, List.length_drop, List.getElem?_drop, List.getElem?_drop, List.getElem?_append, List.length_take, Nat.min_eq_left (by omega)]
    by_cases c1 : a ≤ j
    · rw [if_pos c1, if_pos (by omega), if_neg (by omega), if_neg (by omega), List.getElem?_take_of_lt (by omega)]
      congr 1
      omega
    · rw [if_neg c1]
      by_cases c2 : j + D.length - a < G.length
      · rw [if_pos c2, if_pos (by omega)]
        congr 1
        omega
      · rw [if_neg c2, if_neg (by omega), if_pos (by omega), List.getElem?_take_of_lt (by omega)]
        congr 1
        omega
  · rw [List.getElem?_eq_none (by rw [wrF_len]; omega), List.getElem?_eq_none (by simp; omega)]
theorem wrF_ok {D G : List Nat} {a : Nat} (h : okB D) (hG : okB G) : ∀ i, okB (wrF D a G i)
  | 0 => h
  | i + 1 => by
    intro z hz
    rw [wrF] at hz
    rcases List.mem_or_eq_of_mem_set hz with hz | rfl
    · exact wrF_ok h hG i z hz
    · cases hg : G[i]? with
      | none => simp
      | some y => simpa using hG y (List.mem_of_getElem? hg)
theorem lstF_le (need : Nat) : ∀ (a : Nat) (l : List (List Nat)), (lstF need a l).1 ≤ l.length ∧ (lstF need a l).2 ≤ szsF l
  | a, [] => by simp [lstF]
  | a, r :: l => by
    have ih := lstF_le need (a + szF r) l
    rw [szsF_cons]
    simp only [lstF, List.length_cons]
    split <;> simp only <;> omega
end Go.Proofs.Ythoncigfbhinlaa
