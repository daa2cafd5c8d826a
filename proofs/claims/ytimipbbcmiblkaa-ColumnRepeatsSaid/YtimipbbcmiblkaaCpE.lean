/- column: each coding is read back. -/
import Derived.Test.YtimipbbcmiblkaaCpD
import Derived.Test.YtimipbbcmiblkaaCoM
namespace Go.Proofs.Ytimipbbcmiblkaa
open Go Go.RowKit
set_option linter.unusedVariables false
set_option linter.unusedSimpArgs false
set_option maxHeartbeats 4000000

theorem plD_put {kk : Int} (n : Nat) (T : List Nat) : ∀ (l o : List Val) (k : Nat), (∀ v ∈ l, valV kk v = 0 ∧ i64V v) → o.length + l.length = n → l.length ≤ k → plD n k (o, flB l ++ T, false) = (o ++ l, T, false)
  | [], o, k, _, hn, _ => by
    have hf : flB ([] : List Val) = [] := rfl
    rw [hf, List.nil_append, List.append_nil]
    cases k with
    | zero => rfl
    | succ k => rw [plD, if_neg (by simp at hn; simp [hn])]
  | v :: l, o, k, h, hn, hk => by
    obtain ⟨k, rfl⟩ : ∃ j, k = j + 1 := ⟨k - 1, by simp at hk; omega⟩
    obtain ⟨h1, h2⟩ := h v (by simp)
    have hf : flB (v :: l) ++ T = vB v ++ (flB l ++ T) := by simp [flB]
    rw [plD, if_pos ⟨by simp at hn ⊢; omega, rfl⟩, hf]
    simp only
    rw [valD_put h1 h2]
    simp only
    rw [plD_put n T l (o ++ [v]) k (fun w hw => h w (by simp [hw])) (by simp at hn ⊢; omega) (by simp at hk; omega)]
    simp
theorem endR_all (l : List Val) (u : Val) : ∀ f j p, j ≤ p → p < endR l u f j → l[p]? = some u
  | 0, j, p, h1, h2 => by unfold endR at h2; omega
  | f + 1, j, p, h1, h2 => by
    unfold endR at h2
    split at h2
    · rename_i hc
      by_cases e : p = j
      · rw [e]; exact hc
      · exact endR_all l u f (j + 1) p (by omega) h2
    · omega
theorem take_run (l : List Val) (u : Val) (i : Nat) : ∀ m, (∀ p, i ≤ p → p < i + m → l[p]? = some u) → l.take i ++ List.replicate m u = l.take (i + m)
  | 0, _ => by simp
  | m + 1, h => by
    have ih := take_run l u i m (fun p h1 h2 => h p h1 (by omega))
    rw [List.replicate_succ', ← List.append_assoc, ih, show i + (m + 1) = (i + m) + 1 by omega, List.take_add_one, h (i + m) (by omega) (by omega)]
    rfl
theorem rnD_put {kk : Int} (l : List Val) (h : ∀ v ∈ l, valV kk v = 0 ∧ i64V v) (hl : l.length ≤ 20000) : ∀ (f i j : Nat), l.length - i ≤ f → l.length - i ≤ j → i ≤ l.length → rnD l.length j (l.take i, runs l f i, false) = (l, [], false) := by
  have base : ∀ f j, rnD l.length j (l.take l.length, runs l f l.length, false) = (l, [], false) := fun f j => by
    have hr : runs l f l.length = [] := by
      cases f with
      | zero => rfl
      | succ f => unfold runs; rw [List.getElem?_eq_none (by omega)]
    rw [hr, List.take_length]
    cases j with
    | zero => rfl
    | succ j => rw [rnD, if_neg (by simp)]
  intro f
  induction f with
  | zero =>
    intro i j hf hj hi
    have : i = l.length := by omega
    subst this
    exact base 0 j
  | succ f ih =>
    intro i j hf hj hi
    by_cases c : i = l.length
    · subst c; exact base (f + 1) j
    · have hil : i < l.length := by omega
      obtain ⟨j, rfl⟩ : ∃ k, j = k + 1 := ⟨j - 1, by omega⟩
      have hu := List.getElem?_eq_getElem hil
      generalize l[i] = u at *
      obtain ⟨h1, h2⟩ := h u (List.mem_of_getElem? hu)
      have hge := endR_ge l u l.length (i + 1)
      have hle := endR_le l u l.length (i + 1) (by omega)
      have hall := endR_all l u l.length (i + 1)
      have htl : (l.take i).length = i := by simp; omega
      have hr : runs l (f + 1) i = putI (((endR l u l.length (i + 1) - i : Nat) : Int)) ++ (vB u ++ runs l f (endR l u l.length (i + 1))) := by rw [runs, hu]
      rw [hr]
      clear hr
      obtain ⟨e, he⟩ := ex_eq (endR l u l.length (i + 1))
      rw [he] at hge hle hall ⊢
      clear he
      have hd := dec_put (n := ((e - i : Nat) : Int)) (by omega) (by omega) (vB u ++ runs l f e)
      have hdr := drop_put ((e - i : Nat) : Int) (vB u ++ runs l f e)
      have hv := valD_put h1 h2 (runs l f e)
      have hnb : ¬ badR l.length (l.take i) ((e - i : Nat) : Int) := by unfold badR; rw [htl]; omega
      have ht := take_run l u i (e - i) (fun p p1 p2 => by
        by_cases e2 : p = i
        · rw [e2]; exact hu
        · exact hall p (by omega) (by omega))
      rw [show i + (e - i) = e by omega] at ht
      have hc : (l.take i).length < l.length := by rw [htl]; exact hil
      rw [rnD]
      simp only [hc, hd, hdr, hv, hnb, if_false, if_true, and_self, Int.toNat_natCast, ht]
      have := ih e j (by omega) (by omega) hle
      simpa using this
theorem wrap_back {a b : Int} (h1 : -9223372036854775808 ≤ b) (h2 : b ≤ 9223372036854775807) : IntKind.i64.wrap (a + IntKind.i64.wrap (b - a)) = b := by
  rw [IntKind.wrap_i64, IntKind.wrap_i64]
  omega
theorem dfD_put {k : Int} (hk3 : k ≠ 3) (n : Nat) : ∀ (l o : List Val) (j : Nat) (last : Int) (A : List Nat), (∀ v ∈ l, valV k v = 0 ∧ i64V v) → dif last l = some A → o.length + l.length = n → l.length ≤ j → dfD k n j (o, A, false) last = (o ++ l, [], false)
  | [], o, j, last, A, _, hA, hn, _ => by
    simp only [dif, Option.some.injEq] at hA
    subst hA
    cases j with
    | zero => simp [dfD]
    | succ j => rw [dfD, if_neg (by simp at hn; simp [hn])]; simp
  | v :: l, o, j, last, A, h, hA, hn, hj => by
    obtain ⟨j, rfl⟩ : ∃ i, j = i + 1 := ⟨j - 1, by simp at hj; omega⟩
    obtain ⟨h1, h2⟩ := h v (by simp)
    rw [dif] at hA
    split at hA
    · cases hA
    · rename_i h0
      cases hd : dif v.2.1 l with
      | none => rw [hd] at hA; cases hA
      | some B =>
        rw [hd] at hA
        simp only [Option.map_some, Option.some.injEq] at hA
        subst hA
        obtain ⟨z1, z2⟩ := wrap_rng (v.2.1 - last)
        have hv : v = (k, v.2.1, []) := by
          obtain ⟨d, m, s⟩ := v
          simp only at h0
          simp only [valV, valE] at h1
          rw [if_neg h0] at h1
          by_cases hh : d = k ∧ typB k = true
          · rw [if_pos hh] at h1
            obtain ⟨rfl, ht⟩ := hh
            have h3 := typ_cases ht
            by_cases d1 : d = 1
            · rw [if_pos d1] at h1
              split at h1
              · by_cases hs : s = []
                · rw [hs]
                · rw [if_neg hs] at h1; omega
              · omega
            · rw [if_neg d1, if_pos (by omega)] at h1
              split at h1
              · by_cases hs : s = []
                · rw [hs]
                · rw [if_neg hs] at h1; omega
              · omega
          · rw [if_neg hh] at h1; omega
        rw [dfD, if_pos ⟨by simp at hn ⊢; omega, rfl⟩]
        simp only
        rw [dec_put z1 z2, drop_put]
        simp only
        rw [wrap_back h2.1 h2.2, ← hv]
        have := dfD_put hk3 n l (o ++ [v]) j v.2.1 B (fun w hw => h w (by simp [hw])) hd (by simp at hn ⊢; omega) (by simp at hj; omega)
        simpa using this
end Go.Proofs.Ytimipbbcmiblkaa
