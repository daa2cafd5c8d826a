/- Plain mathematics: what was encoded is decoded, and what is decoded was encoded. Imports nothing of the program. -/
import Derived.Test.YtlpphnhamfgmiaaPlainEnc
namespace Go.Proofs.Ytlpphnhamfgmiaa
open Go

theorem zig_unzig (N : Nat) : zig (unzig N) = N := by
  unfold zig unzig
  by_cases h : N % 2 = 1
  · rw [if_pos h, if_pos (by omega)]; omega
  · rw [if_neg h, if_neg (by omega)]; omega
theorem unzig_zig (n : Int) : unzig (zig n) = n := by
  unfold zig unzig
  by_cases h : n < 0
  · rw [if_pos h, if_pos (by omega)]; omega
  · rw [if_neg h, if_neg (by omega)]; omega
theorem unzig_range {N : Nat} (h : N < 18446744073709551616) : -9223372036854775808 ≤ unzig N ∧ unzig N ≤ 9223372036854775807 := by
  unfold unzig; split <;> omega

theorem pow_pos128 (i : Nat) : 0 < 128 ^ i := Nat.pow_pos (by decide)

/-- what decGo accepts was written by encGo -/
theorem decGo_unique : ∀ (f i u : Nat) (l : List Int) (v n : Int), f + i = 10 → u < 128 ^ i → InB l → decGo f i u l = (v, n, 0) →
    ∃ (N m : Nat), v = unzig N ∧ N < 18446744073709551616 ∧ n = ((i + m : Nat) : Int) ∧ 1 ≤ m ∧ m ≤ l.length ∧ N % 128 ^ i = u ∧ (0 < i → 1 ≤ N / 128 ^ i) ∧ encGo (f - 1) (N / 128 ^ i) = l.take m
  | 0, _, _, _, v, n, _, _, _, h => by simp [decGo] at h
  | _ + 1, _, _, [], v, n, _, _, _, h => by simp [decGo] at h
  | f + 1, i, u, c :: l, v, n, hfi, hu, hin, h => by
    have hc := hin c (List.mem_cons_self)
    have hinl : InB l := fun z hz => hin z (List.mem_cons_of_mem _ hz)
    simp only [decGo] at h
    by_cases h9 : i = 9 ∧ 1 < c
    · rw [if_pos h9] at h; simp at h
    · rw [if_neg h9] at h
      have hg := gather_64 (k := i) (u := u) (z := c) (by omega) hu hc.1 (by omega)
      have hgl := gather_lt (u := u) (k := i) (z := c) hu hc.1
      have hp := pow_pos128 i
      by_cases h128 : 128 ≤ c
      · rw [if_pos h128] at h
        have hf : f ≠ 0 := by
          intro hf; subst hf
          simp [decGo] at h
        obtain ⟨N, m, hv, hN, hn, hm1, hm2, hmod, hpos, henc⟩ := decGo_unique f (i + 1) _ l v n (by omega) hgl hinl h
        have hpos' := hpos (by omega)
        have e1 : N / 128 ^ (i + 1) = N / 128 ^ i / 128 := by rw [Nat.pow_succ, Nat.div_div_eq_div_mul]
        have e2 : N % 128 ^ i = u := by
          have h1 : N % 128 ^ (i + 1) % 128 ^ i = N % 128 ^ i := Nat.mod_mod_of_dvd _ ⟨128, by rw [Nat.pow_succ]⟩
          rw [← h1, hmod, Nat.add_mul_mod_self_right, Nat.mod_eq_of_lt hu]
        have e3 : N / 128 ^ i % 128 = (c % 128).toNat := by
          have h1 : N % 128 ^ (i + 1) / 128 ^ i = N / 128 ^ i % 128 := by
            rw [Nat.pow_succ, Nat.mod_mul_right_div_self]
          rw [← h1, hmod, Nat.add_mul_div_right _ _ hp, Nat.div_eq_of_lt hu, Nat.zero_add]
        rw [e1] at hpos' henc
        refine ⟨N, m + 1, hv, hN, by rw [hn]; omega, by omega, by simp; omega, e2, fun _ => by omega, ?_⟩
        have e4 : f + 1 - 1 = (f - 1) + 1 := by omega
        rw [e4, encGo_ge (by omega), henc, e3, List.take_succ_cons]
        congr 1
        omega
      · rw [if_neg h128] at h
        by_cases h0 : c = 0 ∧ 0 < i
        · rw [if_pos h0] at h; simp at h
        · rw [if_neg h0] at h
          simp only [Prod.mk.injEq, and_true] at h
          obtain ⟨hv, hn⟩ := h
          have e1 : (u + (c % 128).toNat * 128 ^ i) / 128 ^ i = c.toNat := by
            rw [Nat.add_mul_div_right _ _ hp, Nat.div_eq_of_lt hu]; omega
          refine ⟨u + (c % 128).toNat * 128 ^ i, 1, hv.symm, hg.2, by omega, by omega, by simp, ?_, ?_, ?_⟩
          · rw [Nat.add_mul_mod_self_right, Nat.mod_eq_of_lt hu]
          · intro hi; rw [e1]; omega
          · rw [e1, encGo_lt (by omega)]
            simp; omega

theorem dec_unique {l : List Int} {v n : Int} (hin : InB l) (h : dec l = (v, n, 0)) :
    -9223372036854775808 ≤ v ∧ v ≤ 9223372036854775807 ∧ 1 ≤ n ∧ n ≤ l.length ∧ enc v = l.take n.toNat := by
  obtain ⟨N, m, rfl, hN, hn, hm1, hm2, _, _, henc⟩ := decGo_unique 10 0 0 l v n rfl (by decide) hin h
  have hr := unzig_range hN
  refine ⟨hr.1, hr.2, by omega, by omega, ?_⟩
  unfold enc
  rw [zig_unzig]
  simp only [Nat.pow_zero, Nat.div_one] at henc
  rw [henc]
  congr 1
  omega

/-- what encGo wrote is decoded, whatever follows -/
theorem decGo_back : ∀ (f i u x : Nat) (more : List Int), f + i = 9 → u < 128 ^ i → u + x * 128 ^ i < 18446744073709551616 → (0 < i → 1 ≤ x) →
    decGo (f + 1) i u (encGo f x ++ more) = (unzig (u + x * 128 ^ i), ((i + (encGo f x).length : Nat) : Int), 0)
  | 0, i, u, x, more, hfi, hu, hN, hx => by
    obtain rfl : i = 9 := by omega
    have h9 : (128 : Nat) ^ 9 = 9223372036854775808 := by decide
    have hx1 : x ≤ 1 := by
      rcases Nat.lt_or_ge x 2 with h | h
      · omega
      · have : 2 * 128 ^ 9 ≤ x * 128 ^ 9 := Nat.mul_le_mul_right _ h
        omega
    have := hx (by omega)
    obtain rfl : x = 1 := by omega
    simp [encGo, decGo]
  | f + 1, i, u, x, more, hfi, hu, hN, hx => by
    by_cases h : x < 128
    · rw [encGo_lt h]
      simp only [List.cons_append, List.nil_append, decGo]
      rw [if_neg (by omega), if_neg (by omega), if_neg (by intro hh; have := hx hh.2; omega)]
      have : ((x : Int) % 128).toNat = x := by omega
      rw [this]
      rfl
    · rw [encGo_ge h]
      simp only [List.cons_append]
      rw [decGo, if_neg (by omega), if_pos (by omega)]
      have e1 : ((((x % 128 + 128 : Nat) : Int)) % 128).toNat = x % 128 := by omega
      rw [e1]
      have e2 : u + x * 128 ^ i = (u + x % 128 * 128 ^ i) + x / 128 * 128 ^ (i + 1) := by
        have h1 : x = x / 128 * 128 + x % 128 := by omega
        have h2 : x * 128 ^ i = x / 128 * 128 ^ (i + 1) + x % 128 * 128 ^ i := by
          rw [Nat.pow_succ, Nat.mul_comm (128 ^ i) 128, ← Nat.mul_assoc, ← Nat.add_mul, ← h1]
        omega
      have e3 : u + x % 128 * 128 ^ i < 128 ^ (i + 1) := by
        have h1 : x % 128 * 128 ^ i ≤ 127 * 128 ^ i := Nat.mul_le_mul_right _ (by omega)
        rw [Nat.pow_succ]; omega
      rw [decGo_back f (i + 1) _ (x / 128) more (by omega) e3 (by omega) (fun _ => by omega), ← e2]
      simp; omega

theorem dec_back {n : Int} (h0 : -9223372036854775808 ≤ n) (h1 : n ≤ 9223372036854775807) (more : List Int) : dec (enc n ++ more) = (n, ((enc n).length : Int), 0) := by
  have hz := zig_lt h0 h1
  unfold dec enc
  rw [decGo_back 9 0 0 (zig n) more rfl (by decide) (by simpa using hz) (by omega)]
  simp [unzig_zig]

/-- every proper beginning is short -/
theorem decGo_short : ∀ (f i u x k : Nat), f + i = 9 → k < (encGo f x).length → decGo (f + 1) i u ((encGo f x).take k) = (0, 0, 8)
  | 0, i, u, x, k, _, hk => by
    simp [encGo] at hk
    subst hk
    simp [decGo]
  | f + 1, i, u, x, k, hfi, hk => by
    by_cases h : x < 128
    · rw [encGo_lt h] at hk ⊢
      simp at hk
      subst hk
      simp [decGo]
    · rw [encGo_ge h] at hk ⊢
      rcases k with _ | k
      · simp [decGo]
      · rw [List.take_succ_cons, decGo, if_neg (by omega), if_pos (by omega)]
        exact decGo_short f (i + 1) _ (x / 128) k (by omega) (by simpa using hk)
theorem dec_short_of {n : Int} {k : Nat} (hk : k < (enc n).length) : dec ((enc n).take k) = (0, 0, 8) :=
  decGo_short 9 0 0 (zig n) k rfl hk
end Go.Proofs.Ytlpphnhamfgmiaa
