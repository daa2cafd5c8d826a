/- column: what was written is read. -/
import Derived.Test.YtimipbbcmiblkaaCpC
import Derived.Test.YtimipbbcmiblkaaCoN
namespace Go.Proofs.Ytimipbbcmiblkaa
open Go Go.RowKit
set_option linter.unusedVariables false
set_option linter.unusedSimpArgs false
set_option maxHeartbeats 4000000

theorem decGo_enc (r : List Nat) : ∀ (g i u w : Nat), i + g = 9 → w * 128 ^ i < 18446744073709551616 → (0 < i → 0 < w) → decGo (g + 1) i u (encU g w ++ r) = (unzig (u + w * 128 ^ i), i + (encU g w).length, 0)
  | 0, i, u, w, hi, hw, h0 => by
    have i9 : i = 9 := by omega
    subst i9
    have e : (128 : Nat) ^ 9 = 9223372036854775808 := by decide
    rw [e] at hw ⊢
    have w1 : w ≤ 1 := by omega
    have w0 := h0 (by omega)
    have : w = 1 := by omega
    subst this
    simp [encU, decGo, e]
  | g + 1, i, u, w, hi, hw, h0 => by
    unfold encU
    by_cases c : w < 128
    · rw [if_pos c]
      have k1 : ¬ (i = 9 ∧ 1 < w) := by omega
      have k2 : ¬ 128 ≤ w := by omega
      have k3 : ¬ (w = 0 ∧ 0 < i) := fun h => by have := h0 h.2; omega
      simp only [List.singleton_append, decGo, if_neg k1, if_neg k2, if_neg k3, Nat.mod_eq_of_lt c, List.length_singleton]
    · rw [if_neg c]
      have k1 : ¬ (i = 9 ∧ 1 < w % 128 + 128) := by omega
      have k2 : 128 ≤ w % 128 + 128 := by omega
      have k3 : (w % 128 + 128) % 128 = w % 128 := by omega
      have hdm := Nat.div_add_mod w 128
      have hp : w / 128 * 128 ^ (i + 1) ≤ w * 128 ^ i := by
        rw [Nat.pow_succ, Nat.mul_comm (128 ^ i) 128, ← Nat.mul_assoc]
        exact Nat.mul_le_mul_right _ (by omega)
      have ih := decGo_enc r g (i + 1) (u + w % 128 * 128 ^ i) (w / 128) (by omega) (by omega) (fun _ => by omega)
      simp only [List.cons_append, decGo, if_neg k1, if_pos k2, k3, List.length_cons]
      rw [ih]
      have hs : u + w % 128 * 128 ^ i + w / 128 * 128 ^ (i + 1) = u + w * 128 ^ i := by
        rw [Nat.pow_succ, Nat.mul_comm (128 ^ i) 128, ← Nat.mul_assoc]
        have : w * 128 ^ i = (128 * (w / 128) + w % 128) * 128 ^ i := by rw [hdm]
        rw [this, Nat.add_mul, Nat.mul_comm 128 (w / 128)]
        omega
      rw [hs]
      congr 2
      omega
theorem unzig_zz {n : Int} : unzig (zz n) = n := by
  unfold unzig zz
  by_cases h : 0 ≤ n
  · rw [if_pos h]
    have e : (2 * n).toNat % 2 = 0 := by omega
    rw [if_neg (by omega)]
    omega
  · rw [if_neg h]
    rw [if_pos (by omega)]
    omega
theorem dec_put {n : Int} (h1 : -9223372036854775808 ≤ n) (h2 : n ≤ 9223372036854775807) (r : List Nat) : dec (putI n ++ r) = (n, (putI n).length, 0) := by
  have hz := zz_lt h1 h2
  unfold dec putI
  rw [decGo_enc r 9 0 0 (zz n) rfl (by simpa using hz) (fun h => by omega)]
  simp [unzig_zz]
theorem drop_put (n : Int) (r : List Nat) : (putI n ++ r).drop (putI n).length = r := by simp
theorem ofNat_sB (s : List UInt8) : (sB s).map (fun z => UInt8.ofNat z) = s := by
  unfold sB
  rw [List.map_map]
  have : ((fun z => UInt8.ofNat z) ∘ fun (x : UInt8) => x.toNat) = id := by
    funext x
    simp
  rw [this, List.map_id]
theorem decT_put (s : List UInt8) (hs : s.length ≤ 200) (r : List Nat) : decT 200 (putT s ++ r) = (s, (putT s).length, 0) := by
  have hd := dec_put (n := (s.length : Int)) (by omega) (by omega) (sB s ++ r)
  have e : putT s ++ r = putI (s.length : Int) ++ (sB s ++ r) := by unfold putT; rw [List.append_assoc]
  have lB := sB_len s
  rw [e]
  unfold decT
  rw [hd]
  simp only [List.length_append]
  rw [if_neg (by simp), if_neg (by omega), if_neg (by omega), if_neg (by omega)]
  rw [drop_put, Int.toNat_natCast]
  have t : (sB s ++ r).take s.length = sB s := by rw [← lB]; simp
  rw [t, ofNat_sB]
  unfold putT
  rw [List.length_append, lB]
/-- a value that Value accepts -/
theorem valD_put {k : Int} {v : Val} (h : valV k v = 0) (hi : i64V v) (r : List Nat) : valD (vB v ++ r) = (v, r, false) := by
  have ok := valV_ok h hi
  obtain ⟨d, n, s⟩ := v
  obtain ⟨⟨d0, d3⟩, ⟨n1, n2⟩, hs⟩ := ok
  simp only at d0 d3 n1 n2 hs
  simp only [valV, valE] at h
  have hd : d = 0 ∨ d = 1 ∨ d = 2 ∨ d = 3 := by omega
  rcases hd with rfl | rfl | rfl | rfl
  · rw [if_pos rfl] at h
    by_cases hn : n = 0
    · rw [if_pos hn] at h
      by_cases hs : s = []
      · subst hn hs
        simp [vB, tlB, valD]
      · rw [if_neg hs] at h; omega
    · rw [if_neg hn] at h; omega
  · rw [if_neg (by decide)] at h
    by_cases hk : (1 : Int) = k ∧ typB k = true
    · rw [if_pos hk, if_pos rfl] at h
      split at h
      · by_cases hs : s = []
        · subst hs
          have e : vB ((1, n, []) : Val) ++ r = 1 :: (putI n ++ r) := by simp [vB, tlB]
          rw [e]
          simp only [valD, true_or, if_true]
          rw [dec_put n1 n2, drop_put]
          rfl
        · rw [if_neg hs] at h; omega
      · omega
    · rw [if_neg hk] at h; omega
  · rw [if_neg (by decide)] at h
    by_cases hk : (2 : Int) = k ∧ typB k = true
    · rw [if_pos hk, if_neg (by decide), if_pos rfl] at h
      split at h
      · by_cases hs : s = []
        · subst hs
          have e : vB ((2, n, []) : Val) ++ r = 2 :: (putI n ++ r) := by simp [vB, tlB]
          rw [e]
          simp only [valD, or_true, if_true]
          rw [dec_put n1 n2, drop_put]
          rfl
        · rw [if_neg hs] at h; omega
      · omega
    · rw [if_neg hk] at h; omega
  · rw [if_neg (by decide)] at h
    by_cases hk : (3 : Int) = k ∧ typB k = true
    · rw [if_pos hk, if_neg (by decide), if_neg (by decide)] at h
      split at h
      · omega
      · by_cases hn : n = 0
        · subst hn
          have e : vB ((3, 0, s) : Val) ++ r = 3 :: (putT s ++ r) := by simp [vB, tlB]
          rw [e]
          simp [valD, decT_put s hs]
        · rw [if_neg hn] at h; omega
    · rw [if_neg hk] at h; omega
end Go.Proofs.Ytimipbbcmiblkaa
