/- num: numerals and what reads them (no program). -/
import Derived.Lib.AtoiAll
import Derived.Lib.ItoaNum
namespace Go.Proofs.YtidkdiooempkpaaDoor
open Go Go.Lib

theorem digs_dig : ∀ (u : Nat), ∀ c ∈ decDigits u, 48 ≤ c.toNat ∧ c.toNat ≤ 57 := by
  intro u
  induction u using Nat.strongRecOn with
  | _ u ih =>
    intro c hc
    rw [decDigits] at hc
    split at hc
    · simp only [List.mem_singleton] at hc
      subst hc
      have : (UInt8.ofNat (48 + u)).toNat = 48 + u := by simp [UInt8.toNat_ofNat']; omega
      omega
    · rw [List.mem_append] at hc
      rcases hc with hc | hc
      · exact ih (u / 10) (by omega) c hc
      · simp only [List.mem_singleton] at hc
        subst hc
        have : (UInt8.ofNat (48 + u % 10)).toNat = 48 + u % 10 := by simp [UInt8.toNat_ofNat']; omega
        omega
theorem dig_nat (u : Nat) (h : u < 10) : (UInt8.ofNat (48 + u)).toNat = 48 + u := by simp [UInt8.toNat_ofNat']; omega
theorem parse_digs : ∀ (u : Nat) (r : List UInt8), u < 1844674407370955162 → parseUint10 0 (decDigits u ++ r) = parseUint10 u r := by
  intro u
  induction u using Nat.strongRecOn with
  | _ u ih =>
    intro r hu
    rw [decDigits]
    split
    · rename_i h
      have e := dig_nat u h
      simp only [List.singleton_append, parseUint10, e]
      rw [if_pos (by omega), if_neg (by omega), if_neg (by omega)]
      congr 1; omega
    · rename_i h
      have e := dig_nat (u % 10) (by omega)
      rw [List.append_assoc, ih (u / 10) (by omega) _ (by omega)]
      simp only [List.singleton_append, parseUint10, e]
      rw [if_pos (by omega), if_neg (by omega), if_neg (by omega)]
      congr 1; omega
/-- the sum of the digits, whatever else stands between them -/
def dsum (acc : Nat) : List UInt8 → Nat
  | [] => acc
  | c :: r => if 48 ≤ c.toNat ∧ c.toNat ≤ 57 then dsum (acc * 10 + (c.toNat - 48)) r else dsum acc r
theorem dsum_digs : ∀ (u : Nat) (r : List UInt8), dsum 0 (decDigits u ++ r) = dsum u r := by
  intro u
  induction u using Nat.strongRecOn with
  | _ u ih =>
    intro r
    rw [decDigits]
    split
    · rename_i h
      have e := dig_nat u h
      simp only [List.singleton_append, dsum, e]
      rw [if_pos (by omega)]
      congr 1; omega
    · rename_i h
      have e := dig_nat (u % 10) (by omega)
      rw [List.append_assoc, ih (u / 10) (by omega) _]
      simp only [List.singleton_append, dsum, e]
      rw [if_pos (by omega)]
      congr 1; omega
theorem dsum_itoa (n : Int) : dsum 0 (itoa n) = n.natAbs := by
  unfold itoa
  split
  · have := dsum_digs n.natAbs []
    simp only [List.append_nil] at this
    simp only [dsum]
    rw [if_neg (by decide), this]
    rfl
  · have := dsum_digs n.toNat []
    simp only [List.append_nil] at this
    rw [this]
    simp only [dsum]
    omega
theorem dsum_lt : ∀ (l : List UInt8) (acc k : Nat), acc < 10 ^ k → dsum acc l < 10 ^ (k + l.length)
  | [], acc, k, h => by simpa [dsum] using h
  | c :: r, acc, k, h => by
    have hp : 10 ^ (k + 1) = 10 ^ k * 10 := Nat.pow_succ ..
    have hl : k + (c :: r).length = (k + 1) + r.length := by simp only [List.length_cons]; omega
    rw [hl]
    simp only [dsum]
    split
    · exact dsum_lt r _ (k + 1) (by omega)
    · exact dsum_lt r _ (k + 1) (by omega)
theorem dsum_app (l r : List UInt8) : ∀ acc, dsum acc (l ++ r) = dsum (dsum acc l) r := by
  induction l with
  | nil => intro acc; rfl
  | cons c l ih => intro acc; simp only [List.cons_append, dsum]; split <;> exact ih _
theorem digs_ne (u : Nat) : decDigits u ≠ [] := by
  intro h
  have := congrArg List.length h
  rw [decDigits_length] at this
  have := nDigits_pos u
  simp at *
  omega
theorem atoi_itoa (n : Int) (h : -1000000000000000 ≤ n ∧ n ≤ 1000000000000000) : atoiAll (itoa n) = .ok n := by
  have pm : ∀ u : Nat, u ≤ 1000000000000000 → parseMag (decDigits u) = .ok u := by
    intro u hu
    unfold parseMag
    rw [if_neg (digs_ne u)]
    have := parse_digs u [] (by omega)
    rw [List.append_nil] at this
    rw [this]; rfl
  unfold itoa
  split
  · rename_i hn
    unfold atoiAll
    simp only [show (45 : UInt8).toNat = 45 from rfl]
    rw [if_pos (by simp), pm _ (by omega)]
    simp only [not_true_eq_false, false_and, if_false, if_true, true_and]
    rw [if_neg (by omega)]
    congr 1; omega
  · rename_i hn
    cases hd : decDigits n.toNat with
    | nil => exact absurd hd (digs_ne _)
    | cons c r =>
      have hc := digs_dig n.toNat c (by rw [hd]; exact List.mem_cons_self ..)
      unfold atoiAll
      simp only
      rw [if_neg (by omega), ← hd, pm _ (by omega)]
      have h45 : ¬ c.toNat = 45 := by omega
      simp only [h45, not_false_eq_true, true_and, false_and, if_false]
      rw [if_neg (by omega)]
      congr 1; omega
theorem nDigits_le : ∀ (k u : Nat), u < 10 ^ (k + 1) → nDigits u ≤ k + 1
  | 0, u, h => by rw [nDigits_small (by simpa using h)]; exact Nat.le_refl _
  | k + 1, u, h => by
    by_cases h1 : u < 10
    · rw [nDigits_small h1]; omega
    · rw [nDigits_big h1]
      have := nDigits_le k (u / 10) (by rw [Nat.pow_succ] at h; omega)
      omega
theorem itoa_len (n : Int) (h : -1000000000000000 ≤ n ∧ n ≤ 1000000000000000) : (itoa n).length ≤ 17 := by
  unfold itoa
  split
  · rw [List.length_cons, decDigits_length]
    have := nDigits_le 15 n.natAbs (by omega)
    omega
  · rw [decDigits_length]
    have := nDigits_le 15 n.toNat (by omega)
    omega
theorem itoa_len20 (n : Int) (h : -9223372036854775808 ≤ n ∧ n ≤ 9223372036854775807) : (itoa n).length ≤ 21 := by
  unfold itoa
  split
  · rw [List.length_cons, decDigits_length]
    have := nDigits_le 19 n.natAbs (by omega)
    omega
  · rw [decDigits_length]
    have := nDigits_le 19 n.toNat (by omega)
    omega
theorem itoa_inj {a b : Int} (ha : -1000000000000000 ≤ a ∧ a ≤ 1000000000000000) (hb : -1000000000000000 ≤ b ∧ b ≤ 1000000000000000) (h : itoa a = itoa b) : a = b := by
  have e1 := atoi_itoa a ha
  have e2 := atoi_itoa b hb
  rw [h, e2] at e1
  cases e1; rfl
/-- the last digit apart -/
theorem itoa_step (n : Int) (h : n ≤ -10 ∨ 10 ≤ n) : itoa n = itoa (n.tdiv 10) ++ [UInt8.ofNat (48 + n.natAbs % 10)] := by
  rcases h with h | h
  · have e : (n.tdiv 10).natAbs = n.natAbs / 10 := by rw [Int.natAbs_tdiv]; rfl
    have s : n.tdiv 10 < 0 := by
      have e2 : n.tdiv 10 = -((-n).tdiv 10) := by rw [Int.neg_tdiv, Int.neg_neg]
      rw [e2, Int.tdiv_eq_ediv_of_nonneg (by omega)]; omega
    unfold itoa
    rw [if_pos (by omega), if_pos s, e]
    conv => lhs; rw [decDigits]
    rw [dif_neg (by omega)]
    rfl
  · have e : n.tdiv 10 = n / 10 := Int.tdiv_eq_ediv_of_nonneg (by omega)
    unfold itoa
    rw [if_neg (by omega), if_neg (by omega), e]
    conv => lhs; rw [decDigits]
    rw [dif_neg (by omega)]
    have : (n / 10).toNat = n.toNat / 10 := by omega
    rw [this]
    congr 2
    congr 2
    omega
end Go.Proofs.YtidkdiooempkpaaDoor
