/- ring: a record's frame has the size that PutInt gives it. -/
import Derived.Test.YthoncigfbhinlaaRgS
namespace Go.Proofs.Ythoncigfbhinlaa
open Go Go.RowKit
set_option linter.unusedVariables false
set_option linter.unusedSimpArgs false
set_option maxHeartbeats 8000000

theorem dec_spec : ∀ (f i u : Nat) (l : List Nat), u < 128 ^ i → (decGo f i u l).2.2 = 0 →
    ∃ U, (decGo f i u l).1 = unzig U ∧ ((decGo f i u l).2.1 = 1 ∧ U < 128 ∨ 2 ≤ (decGo f i u l).2.1 ∧ 128 ^ ((decGo f i u l).2.1 - 1) ≤ U ∧ U < 128 ^ (decGo f i u l).2.1)
  | 0, i, u, l, _, h => by simp [decGo] at h
  | f + 1, i, u, [], _, h => by simp [decGo] at h
  | f + 1, i, u, c :: l, hu, h => by
    have hg := gather_lt (z := c) hu
    simp only [decGo] at h ⊢
    by_cases h1 : i = 9 ∧ 1 < c
    · rw [if_pos h1] at h; simp at h
    · rw [if_neg h1] at h ⊢
      by_cases h2 : 128 ≤ c
      · rw [if_pos h2] at h ⊢
        exact dec_spec f (i + 1) _ l hg h
      · rw [if_neg h2] at h ⊢
        by_cases h3 : c = 0 ∧ 0 < i
        · rw [if_pos h3] at h; simp at h
        · rw [if_neg h3] at h ⊢
          refine ⟨_, rfl, ?_⟩
          by_cases h4 : i = 0
          · subst h4
            exact .inl ⟨rfl, by simpa using hg⟩
          · refine .inr ⟨by simp only; omega, ?_, hg⟩
            have hc : 1 ≤ c % 128 := by omega
            have : 1 * 128 ^ i ≤ c % 128 * 128 ^ i := Nat.mul_le_mul_right _ hc
            simp only [Nat.add_sub_cancel]
            omega
theorem dec_size {b : List Nat} (h : (dec b).2.2 = 0) (h0 : 0 ≤ (dec b).1) (h1 : (dec b).1 ≤ 2000) : (dec b).2.1 = (putF (dec b).1.toNat).length := by
  obtain ⟨U, e, hs⟩ := dec_spec 10 0 0 b (by decide) h
  change (dec b).1 = unzig U at e
  change (dec b).2.1 = 1 ∧ U < 128 ∨ 2 ≤ (dec b).2.1 ∧ 128 ^ ((dec b).2.1 - 1) ≤ U ∧ U < 128 ^ (dec b).2.1 at hs
  rw [e] at h0 h1 ⊢
  have hU : U = 2 * (unzig U).toNat := by
    unfold unzig at *
    split at h0 <;> rename_i hp
    · omega
    · rw [if_neg hp]; omega
  have hl : (putF (unzig U).toNat).length = if (unzig U).toNat < 64 then 1 else 2 := by unfold putF; split <;> rfl
  rw [hl]
  rcases hs with ⟨s1, s2⟩ | ⟨s1, s2, s3⟩
  · rw [if_pos (by omega), s1]
  · have s4 : (dec b).2.1 ≤ 2 := by
      rcases Nat.lt_or_ge 2 (dec b).2.1 with g | g
      · have : 128 ^ 2 ≤ 128 ^ ((dec b).2.1 - 1) := Nat.pow_le_pow_right (by decide) (by omega)
        omega
      · exact g
    have s5 : (dec b).2.1 = 2 := by omega
    rw [s5] at s2 s3
    rw [if_neg (by simp at s2; omega), s5]
/-- the size of a record's frame -/
def szF (r : List Nat) : Nat := (putF r.length).length + r.length
theorem frameF_sz {b r : List Nat} {k : Nat} (h : frameF b = some (r, k)) : k = szF r ∧ r.length ≤ 2000 := by
  unfold frameF at h
  split at h
  · rename_i hc
    have h1 := dec_size hc.1 hc.2.1 hc.2.2.1
    have h2 := decGo_size 10 0 0 b hc.1
    change 0 + 1 ≤ (dec b).2.1 ∧ (dec b).2.1 ≤ 0 + b.length at h2
    cases h
    have hl : ((b.drop (dec b).2.1).take (dec b).1.toNat).length = (dec b).1.toNat := by
      rw [List.length_take, List.length_drop]; omega
    unfold szF
    rw [hl, ← h1]
    exact ⟨rfl, by omega⟩
  · cases h
def szsF (l : List (List Nat)) : Nat := (l.map szF).sum
theorem recF_sz : ∀ (n : Nat) (b : List Nat) (l : List (List Nat)), recF n b = some l → szsF l = b.length ∧ ∀ r ∈ l, r.length ≤ 2000
  | 0, b, l, h => by simp [recF] at h
  | n + 1, b, l, h => by
    simp only [recF] at h
    split at h
    · rename_i hb
      cases h; subst hb; exact ⟨rfl, by simp⟩
    · split at h
      · rename_i r k hf
        split at h
        · rename_i q hq
          cases h
          obtain ⟨a1, a2⟩ := recF_sz n _ _ hq
          obtain ⟨b1, b2⟩ := frameF_sz hf
          have := frameF_size hf
          refine ⟨?_, ?_⟩
          · unfold szsF at *
            rw [List.map_cons, List.sum_cons, a1, List.length_drop]
            omega
          · intro x hx
            rcases List.mem_cons.1 hx with rfl | hx
            · exact b2
            · exact a2 x hx
        · cases h
      · cases h
end Go.Proofs.Ythoncigfbhinlaa
