/- Blocks of a list, each in order. -/
import Derived.Test.YtalmhggbdfjalaaStM
namespace Go.Proofs.Ytalmhggbdfjalaa
set_option linter.unusedVariables false
set_option linter.unusedSimpArgs false
section
variable {α : Type}
def blkN (le : α → α → Bool) (k : Nat) : Nat → List α → List α
  | 0, _ => []
  | m + 1, l => srtS le (l.take k) ++ blkN le k m (l.drop k)
theorem blkN_nil (le : α → α → Bool) (k : Nat) : ∀ m, blkN le k m [] = []
  | 0 => rfl
  | m + 1 => by
    unfold blkN
    rw [List.take_nil, List.drop_nil, blkN_nil le k m]
    rfl
theorem blkN_more (le : α → α → Bool) (k : Nat) (hk : 0 < k) : ∀ (m : Nat) (l : List α) (j : Nat), l.length ≤ m → blkN le k (m + j) l = blkN le k m l
  | 0, l, j, h => by
    rw [List.length_eq_zero_iff.1 (Nat.le_zero.1 h), blkN_nil, blkN_nil]
  | m + 1, l, j, h => by
    rw [show m + 1 + j = (m + j) + 1 by omega]
    unfold blkN
    rw [blkN_more le k hk m (l.drop k) j (by rw [List.length_drop]; omega)]
/-- the blocks of k elements, each in order -/
def wS (le : α → α → Bool) (k : Nat) (l : List α) : List α := blkN le k l.length l
theorem wS_step (le : α → α → Bool) (k : Nat) (hk : 0 < k) (l : List α) : wS le k l = srtS le (l.take k) ++ wS le k (l.drop k) := by
  unfold wS
  cases h : l.length with
  | zero =>
    rw [List.length_eq_zero_iff.1 h, List.take_nil, List.drop_nil]
    rfl
  | succ m =>
    have e : blkN le k (m + 1) l = srtS le (l.take k) ++ blkN le k m (l.drop k) := rfl
    rw [e]
    congr 1
    have h2 : (l.drop k).length ≤ m := by rw [List.length_drop]; omega
    have := blkN_more le k hk (l.drop k).length (l.drop k) (m - (l.drop k).length) (Nat.le_refl _)
    rw [show (l.drop k).length + (m - (l.drop k).length) = m by omega] at this
    exact this
theorem wS_nil (le : α → α → Bool) (k : Nat) : wS le k ([] : List α) = [] := rfl
theorem wS_short (le : α → α → Bool) (k : Nat) (hk : 0 < k) (l : List α) (h : l.length ≤ k) : wS le k l = srtS le l := by
  rw [wS_step le k hk, List.take_of_length_le h, List.drop_of_length_le h, wS_nil, List.append_nil]
theorem wS_len (le : α → α → Bool) (k : Nat) (hk : 0 < k) : ∀ (m : Nat) (l : List α), l.length = m → (wS le k l).length = m := by
  intro m
  induction m using Nat.strongRecOn with
  | ind m ih =>
    intro l hl
    by_cases h : l.length ≤ k
    · rw [wS_short le k hk l h, srtS_len, hl]
    · rw [wS_step le k hk, List.length_append, srtS_len, List.length_take, ih (l.drop k).length (by rw [List.length_drop]; omega) _ rfl, List.length_drop]
      omega
theorem wS_mem (le : α → α → Bool) (k : Nat) (hk : 0 < k) (x : α) : ∀ (m : Nat) (l : List α), l.length = m → (x ∈ wS le k l ↔ x ∈ l) := by
  intro m
  induction m using Nat.strongRecOn with
  | ind m ih =>
    intro l hl
    by_cases h : l.length ≤ k
    · rw [wS_short le k hk l h, (srtS_perm le l).mem_iff]
    · rw [wS_step le k hk, List.mem_append, (srtS_perm le _).mem_iff, ih (l.drop k).length (by rw [List.length_drop]; omega) _ rfl, ← List.mem_append, List.take_append_drop]
/-- two neighbouring blocks become one -/
theorem wS_two {le : α → α → Bool} (o : Ordr le) (k : Nat) (l : List α) : srtS le (srtS le (l.take k) ++ srtS le ((l.drop k).take k)) = srtS le (l.take (2 * k)) := by
  rw [srtS_app o]
  congr 1
  rw [show 2 * k = k + k by omega, List.take_add]
end
end Go.Proofs.Ytalmhggbdfjalaa
