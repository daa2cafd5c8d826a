/- Loops of the pure reading, and words for evaluating. -/
import Derived.Test.YtlnaibkpmklkiaaEvQ
namespace Go.Proofs.Ytlnaibkpmklkiaa
open Go Go.RowKit
set_option linter.unusedVariables false

/-- a loop over a list: until one stops it, or to the end -/
def runF {α σ : Type} (stop : Nat → α → σ → Bool) (next : Nat → α → σ → σ) : List α → Nat → σ → σ ⊕ (Nat × α × σ)
  | [], _, x => .inl x
  | a :: r, k, x => if stop k a x = true then .inr (k, a, x) else runF stop next r (k + 1) (next k a x)

theorem runF_inr {α σ : Type} {stop : Nat → α → σ → Bool} {next : Nat → α → σ → σ} {I : Nat → σ → Prop} {L : List α} (hI : ∀ k a x, L[k]? = some a → I k x → stop k a x = false → I (k + 1) (next k a x)) :
    ∀ (r : List α) (k : Nat) (x : σ), (∀ i, r[i]? = L[k + i]?) → I k x → ∀ k' a' x', runF stop next r k x = .inr (k', a', x') → L[k']? = some a' ∧ stop k' a' x' = true ∧ I k' x'
  | [], k, x, _, _, k', a', x', h => by simp [runF] at h
  | a :: r, k, x, hr, hx, k', a', x', h => by
    have h0 : L[k]? = some a := by simpa using (hr 0).symm
    simp only [runF] at h
    split at h
    · rename_i hs
      cases h
      exact ⟨h0, hs, hx⟩
    · rename_i hs
      exact runF_inr hI r (k + 1) _ (fun i => by have := hr (i + 1); rw [show k + (i + 1) = k + 1 + i by omega] at this; simpa using this) (hI k a x h0 hx (by simpa using hs)) k' a' x' h

theorem runF_inl {α σ : Type} {stop : Nat → α → σ → Bool} {next : Nat → α → σ → σ} {I : Nat → σ → Prop} {L : List α} (hI : ∀ k a x, L[k]? = some a → I k x → stop k a x = false → I (k + 1) (next k a x)) :
    ∀ (r : List α) (k : Nat) (x : σ), (∀ i, r[i]? = L[k + i]?) → k + r.length = L.length → I k x → ∀ x', runF stop next r k x = .inl x' → I L.length x'
  | [], k, x, _, hl, hx, x', h => by
    simp [runF] at h
    subst h
    have : k = L.length := by simpa using hl
    rw [← this]; exact hx
  | a :: r, k, x, hr, hl, hx, x', h => by
    have h0 : L[k]? = some a := by simpa using (hr 0).symm
    simp only [runF] at h
    split at h
    · cases h
    · rename_i hs
      exact runF_inl hI r (k + 1) _ (fun i => by have := hr (i + 1); rw [show k + (i + 1) = k + 1 + i by omega] at this; simpa using this) (by simp at hl; omega) (hI k a x h0 hx (by simpa using hs)) x' h

/-- A LOOP OVER A LIST -/
theorem loop_run {α σ : Type} {body : St → Option Out} {keep : List Nat} {n0 : Nat} (L : List α) (S : Nat → σ → St) (stop : Nat → α → σ → Bool) (next : Nat → α → σ → σ) (I : Nat → σ → Prop)
    (hnext : ∀ k a x, L[k]? = some a → k < L.length → I k x → stop k a x = false → I (k + 1) (next k a x) ∧ ∃ s', body (S k x) = some (.normal s') ∧ norm keep n0 s' = S (k + 1) (next k a x))
    (hstop : ∀ k a x, L[k]? = some a → k < L.length → I k x → stop k a x = true → ∀ s, body (S k x) ≠ some (.normal s))
    (hend : ∀ x, I L.length x → ∀ s, body (S L.length x) ≠ some (.normal s)) {fuel : Nat} {s0 : St} {x0 : σ} (hf : L.length < fuel) (h0 : norm keep n0 s0 = S 0 x0) (hI0 : I 0 x0) :
    evLoop body keep n0 fuel s0 = match runF stop next L 0 x0 with
      | .inl x => body (S L.length x)
      | .inr (k, _, x) => body (S k x) := by
  have key : ∀ (r : List α) (k : Nat) (x : σ) (fuel : Nat) (s : St), (∀ i, r[i]? = L[k + i]?) → k + r.length = L.length → r.length < fuel → norm keep n0 s = S k x → I k x →
      evLoop body keep n0 fuel s = match runF stop next r k x with
      | .inl x => body (S L.length x)
      | .inr (k, _, x) => body (S k x) := by
    intro r
    induction r with
    | nil =>
      intro k x fuel s hr hl hfu hs hx
      obtain ⟨f', rfl⟩ : ∃ f', fuel = f' + 1 := ⟨fuel - 1, by simp at hfu; omega⟩
      have hk : k = L.length := by simpa using hl
      subst hk
      simp only [evLoop, runF, hs]
      have := hend x hx
      split
      · rename_i st hb; exact absurd hb (this st)
      · rfl
    | cons a r ih =>
      intro k x fuel s hr hl hfu hs hx
      obtain ⟨f', rfl⟩ : ∃ f', fuel = f' + 1 := ⟨fuel - 1, by simp at hfu; omega⟩
      have hla : L[k]? = some a := by simpa using (hr 0).symm
      have hkl : k < L.length := (List.getElem?_eq_some_iff.1 hla).1
      simp only [evLoop, runF, hs]
      by_cases hst : stop k a x = true
      · rw [if_pos hst]
        have := hstop k a x hla hkl hx hst
        split
        · rename_i st hb; exact absurd hb (this st)
        · rfl
      · rw [if_neg hst]
        obtain ⟨g1, s', g2, g3⟩ := hnext k a x hla hkl hx (by simpa using hst)
        rw [g2]
        exact ih (k + 1) _ f' s' (fun i => by have := hr (i + 1); rw [show k + (i + 1) = k + 1 + i by omega] at this; simpa using this) (by simp at hl; omega) (by simp at hfu; omega) g3 g1
  exact key L 0 x0 fuel s0 (fun i => by simp) (by simp) hf h0 hI0

/-- A LOOP TO THE END OF A LIST -/
theorem loop_fold {α σ : Type} {body : St → Option Out} {keep : List Nat} {n0 : Nat} (L : List α) (S : Nat → σ → St) (next : σ → α → σ) (I : Nat → σ → Prop)
    (hnext : ∀ k a x, L[k]? = some a → k < L.length → I k x → I (k + 1) (next x a) ∧ ∃ s', body (S k x) = some (.normal s') ∧ norm keep n0 s' = S (k + 1) (next x a))
    (hend : ∀ x, I L.length x → ∀ s, body (S L.length x) ≠ some (.normal s)) {fuel : Nat} {s0 : St} {x0 : σ} (hf : L.length < fuel) (h0 : norm keep n0 s0 = S 0 x0) (hI0 : I 0 x0) :
    evLoop body keep n0 fuel s0 = body (S L.length (L.foldl next x0)) ∧ I L.length (L.foldl next x0) := by
  have key : ∀ (r : List α) (k : Nat) (x : σ) (fuel : Nat) (s : St), (∀ i, r[i]? = L[k + i]?) → k + r.length = L.length → r.length < fuel → norm keep n0 s = S k x → I k x →
      evLoop body keep n0 fuel s = body (S L.length (r.foldl next x)) ∧ I L.length (r.foldl next x) := by
    intro r
    induction r with
    | nil =>
      intro k x fuel s hr hl hfu hs hx
      obtain ⟨f', rfl⟩ : ∃ f', fuel = f' + 1 := ⟨fuel - 1, by simp at hfu; omega⟩
      have hk : k = L.length := by simpa using hl
      subst hk
      simp only [evLoop, hs, List.foldl]
      have := hend x hx
      refine ⟨?_, hx⟩
      split
      · rename_i st hb; exact absurd hb (this st)
      · rfl
    | cons a r ih =>
      intro k x fuel s hr hl hfu hs hx
      obtain ⟨f', rfl⟩ : ∃ f', fuel = f' + 1 := ⟨fuel - 1, by simp at hfu; omega⟩
      have hla : L[k]? = some a := by simpa using (hr 0).symm
      have hkl : k < L.length := (List.getElem?_eq_some_iff.1 hla).1
      simp only [evLoop, hs, List.foldl]
      obtain ⟨g1, s', g2, g3⟩ := hnext k a x hla hkl hx
      rw [g2]
      exact ih (k + 1) _ f' s' (fun i => by have := hr (i + 1); rw [show k + (i + 1) = k + 1 + i by omega] at this; simpa using this) (by simp at hl; omega) (by simp at hfu; omega) g3 g1
  exact key L 0 x0 fuel s0 (fun i => by simp) (by simp) hf h0 hI0

/-- A LOOP THAT RETURNS AT THE FIRST THAT FAILS -/
theorem loop_all {α : Type} {body : St → Option Out} {keep : List Nat} {n0 : Nat} (L : List α) (S : Nat → St) (q : α → Bool) (R : St → Prop)
    (hnext : ∀ k a, L[k]? = some a → k < L.length → q a = true → ∃ s', body (S k) = some (.normal s') ∧ norm keep n0 s' = S (k + 1))
    (hstop : ∀ k a, L[k]? = some a → k < L.length → q a = false → ∃ s', body (S k) = some (.ret s') ∧ R s')
    (hend : ∀ s, body (S L.length) ≠ some (.normal s)) {fuel : Nat} (hf : L.length < fuel) (s0 : St) (E : Option Out) (hE : evLoop body keep n0 fuel s0 = E) (h0 : norm keep n0 s0 = S 0) :
    (L.all q = true ∧ E = body (S L.length)) ∨ (L.all q = false ∧ ∃ s, E = some (.ret s) ∧ R s) := by
  subst hE
  have key : ∀ (r : List α) (k fuel : Nat) (s : St), (∀ i, r[i]? = L[k + i]?) → k + r.length = L.length → r.length < fuel → norm keep n0 s = S k →
      (r.all q = true ∧ evLoop body keep n0 fuel s = body (S L.length)) ∨ (r.all q = false ∧ ∃ o, evLoop body keep n0 fuel s = some (.ret o) ∧ R o) := by
    intro r
    induction r with
    | nil =>
      intro k fuel s hr hl hfu hs
      obtain ⟨f', rfl⟩ : ∃ f', fuel = f' + 1 := ⟨fuel - 1, by simp at hfu; omega⟩
      have hk : k = L.length := by simpa using hl
      subst hk
      refine .inl ⟨rfl, ?_⟩
      rw [evLoop, hs]
      cases hb : body (S L.length) with
      | none => rfl
      | some o => cases o with
        | normal st => exact absurd hb (hend st)
        | exit id st => rfl
        | ret st => rfl
    | cons a r ih =>
      intro k fuel s hr hl hfu hs
      obtain ⟨f', rfl⟩ : ∃ f', fuel = f' + 1 := ⟨fuel - 1, by simp at hfu; omega⟩
      have hla : L[k]? = some a := by simpa using (hr 0).symm
      have hkl : k < L.length := (List.getElem?_eq_some_iff.1 hla).1
      by_cases hq : q a = true
      · obtain ⟨s', g2, g3⟩ := hnext k a hla hkl hq
        simp only [evLoop, hs, List.all_cons, hq, Bool.true_and]
        rw [g2]
        exact ih (k + 1) f' s' (fun i => by have := hr (i + 1); rw [show k + (i + 1) = k + 1 + i by omega] at this; simpa using this) (by simp at hl; omega) (by simp at hfu; omega) g3
      · have hq : q a = false := by simpa using hq
        obtain ⟨s', g2, g3⟩ := hstop k a hla hkl hq
        refine .inr ⟨by simp [hq], s', ?_, g3⟩
        simp only [evLoop, hs]
        rw [g2]
  exact key L 0 fuel s0 (fun i => by simp) (by simp) hf h0

/-- the first number that is not zero -/
def firstF {α : Type} (f : Nat → α → Int) : List α → Nat → Int
  | [], _ => 0
  | a :: r, k => if f k a = 0 then firstF f r (k + 1) else f k a

theorem firstF_zero {α : Type} {f : Nat → α → Int} : ∀ (L : List α) (k : Nat), firstF f L k = 0 ↔ ∀ i a, L[i]? = some a → f (k + i) a = 0
  | [], k => by simp [firstF]
  | b :: r, k => by
    simp only [firstF]
    constructor
    · intro h
      split at h
      · rename_i h0
        intro i a hi
        cases i with
        | zero => simp at hi; subst hi; exact h0
        | succ i => have := (firstF_zero r (k + 1)).1 h i a (by simpa using hi); rw [show k + 1 + i = k + (i + 1) by omega] at this; exact this
      · rename_i h0; exact absurd h h0
    · intro h
      have h0 := h 0 b rfl
      rw [Nat.add_zero] at h0
      rw [if_pos h0]
      exact (firstF_zero r (k + 1)).2 fun i a hi => by have := h (i + 1) a (by simpa using hi); rw [show k + (i + 1) = k + 1 + i by omega] at this; exact this

/-- A LOOP THAT RETURNS THE FIRST ERROR -/
theorem loop_first {α : Type} {body : St → Option Out} {keep : List Nat} {n0 : Nat} (L : List α) (S : Nat → St) (f : Nat → α → Int) (R : Int → St → Prop)
    (hnext : ∀ k a, L[k]? = some a → k < L.length → f k a = 0 → ∃ s', body (S k) = some (.normal s') ∧ norm keep n0 s' = S (k + 1))
    (hstop : ∀ k a, L[k]? = some a → k < L.length → f k a ≠ 0 → ∃ s', body (S k) = some (.ret s') ∧ R (f k a) s')
    (hend : ∀ s, body (S L.length) ≠ some (.normal s)) {fuel : Nat} (hf : L.length < fuel) (s0 : St) (E : Option Out) (hE : evLoop body keep n0 fuel s0 = E) (h0 : norm keep n0 s0 = S 0) :
    (firstF f L 0 = 0 ∧ E = body (S L.length)) ∨ (firstF f L 0 ≠ 0 ∧ ∃ s, E = some (.ret s) ∧ R (firstF f L 0) s) := by
  subst hE
  have key : ∀ (r : List α) (k fuel : Nat) (s : St), (∀ i, r[i]? = L[k + i]?) → k + r.length = L.length → r.length < fuel → norm keep n0 s = S k →
      (firstF f r k = 0 ∧ evLoop body keep n0 fuel s = body (S L.length)) ∨ (firstF f r k ≠ 0 ∧ ∃ o, evLoop body keep n0 fuel s = some (.ret o) ∧ R (firstF f r k) o) := by
    intro r
    induction r with
    | nil =>
      intro k fuel s hr hl hfu hs
      obtain ⟨f', rfl⟩ : ∃ f', fuel = f' + 1 := ⟨fuel - 1, by simp at hfu; omega⟩
      have hk : k = L.length := by simpa using hl
      subst hk
      refine .inl ⟨rfl, ?_⟩
      rw [evLoop, hs]
      cases hb : body (S L.length) with
      | none => rfl
      | some o => cases o with
        | normal st => exact absurd hb (hend st)
        | exit id st => rfl
        | ret st => rfl
    | cons a r ih =>
      intro k fuel s hr hl hfu hs
      obtain ⟨f', rfl⟩ : ∃ f', fuel = f' + 1 := ⟨fuel - 1, by simp at hfu; omega⟩
      have hla : L[k]? = some a := by simpa using (hr 0).symm
      have hkl : k < L.length := (List.getElem?_eq_some_iff.1 hla).1
      by_cases hq : f k a = 0
      · obtain ⟨s', g2, g3⟩ := hnext k a hla hkl hq
        simp only [evLoop, hs, firstF, hq, if_true]
        rw [g2]
        exact ih (k + 1) f' s' (fun i => by have := hr (i + 1); rw [show k + (i + 1) = k + 1 + i by omega] at this; simpa using this) (by simp at hl; omega) (by simp at hfu; omega) g3
      · obtain ⟨s', g2, g3⟩ := hstop k a hla hkl hq
        simp only [evLoop, hs, firstF, hq, if_false]
        rw [g2]
        exact .inr ⟨hq, s', rfl, g3⟩
  exact key L 0 fuel s0 (fun i => by simp) (by simp) hf h0

/-- sums that fit -/
theorem wrap_i64 (x : Int) (h1 : -9223372036854775808 ≤ x) (h2 : x ≤ 9223372036854775807) : IntKind.i64.wrap x = x := by
  unfold IntKind.wrap
  simp only [IntKind.bits, IntKind.signed]
  simp
  omega
theorem wrap_u8 (x : Int) (h1 : 0 ≤ x) (h2 : x ≤ 255) : IntKind.u8.wrap x = x := by
  unfold IntKind.wrap
  simp only [IntKind.bits, IntKind.signed]
  simp
  omega

theorem map_get {α β : Type} {f : α → β} {L : List α} {k : Nat} {a : α} (h : L[k]? = some a) : (L.map f)[k]? = some (f a) := by simp [h]



/-- the same, the loop's outcome named -/
theorem loop_runE {α σ : Type} {body : St → Option Out} {keep : List Nat} {n0 : Nat} (L : List α) (S : Nat → σ → St) (stop : Nat → α → σ → Bool) (next : Nat → α → σ → σ) (I : Nat → σ → Prop)
    (hnext : ∀ k a x, L[k]? = some a → k < L.length → I k x → stop k a x = false → I (k + 1) (next k a x) ∧ ∃ s', body (S k x) = some (.normal s') ∧ norm keep n0 s' = S (k + 1) (next k a x))
    (hstop : ∀ k a x, L[k]? = some a → k < L.length → I k x → stop k a x = true → ∀ s, body (S k x) ≠ some (.normal s))
    (hend : ∀ x, I L.length x → ∀ s, body (S L.length x) ≠ some (.normal s)) {fuel : Nat} (hf : L.length < fuel) (x0 : σ) (hI0 : I 0 x0) (s0 : St) (E : Option Out) (hE : evLoop body keep n0 fuel s0 = E) (h0 : norm keep n0 s0 = S 0 x0) :
    (∃ x, runF stop next L 0 x0 = .inl x ∧ I L.length x ∧ E = body (S L.length x)) ∨ (∃ k a x, runF stop next L 0 x0 = .inr (k, a, x) ∧ L[k]? = some a ∧ k < L.length ∧ stop k a x = true ∧ I k x ∧ E = body (S k x)) := by
  have h := loop_run L S stop next I hnext hstop hend hf h0 hI0
  rw [hE] at h
  have hI : ∀ k a x, L[k]? = some a → I k x → stop k a x = false → I (k + 1) (next k a x) := fun k a x h1 h2 h3 => (hnext k a x h1 (List.getElem?_eq_some_iff.1 h1).1 h2 h3).1
  cases hr : runF stop next L 0 x0 with
  | inl x =>
    rw [hr] at h
    exact .inl ⟨x, rfl, runF_inl hI L 0 x0 (fun i => by simp) (by simp) hI0 x hr, h⟩
  | inr y =>
    obtain ⟨k, a, x⟩ := y
    rw [hr] at h
    obtain ⟨g1, g2, g3⟩ := runF_inr hI L 0 x0 (fun i => by simp) hI0 k a x hr
    exact .inr ⟨k, a, x, rfl, g1, (List.getElem?_eq_some_iff.1 g1).1, g2, g3, h⟩

/-- the same of a loop to the end -/
theorem loop_foldE {α σ : Type} {body : St → Option Out} {keep : List Nat} {n0 : Nat} (L : List α) (S : Nat → σ → St) (next : σ → α → σ) (I : Nat → σ → Prop)
    (hnext : ∀ k a x, L[k]? = some a → k < L.length → I k x → I (k + 1) (next x a) ∧ ∃ s', body (S k x) = some (.normal s') ∧ norm keep n0 s' = S (k + 1) (next x a))
    (hend : ∀ x, I L.length x → ∀ s, body (S L.length x) ≠ some (.normal s)) {fuel : Nat} (hf : L.length < fuel) (x0 : σ) (hI0 : I 0 x0) (s0 : St) (E : Option Out) (hE : evLoop body keep n0 fuel s0 = E) (h0 : norm keep n0 s0 = S 0 x0) :
    E = body (S L.length (L.foldl next x0)) ∧ I L.length (L.foldl next x0) := by
  rw [← hE]
  exact loop_fold L S next I hnext hend hf h0 hI0
/-- a loop over a list that goes on under an invariant, or returns -/
theorem loop_inv {α σ : Type} {body : St → Option Out} {keep : List Nat} {n0 : Nat} (L : List α) (S : Nat → σ → St) (I : Nat → σ → Prop) (R : St → Prop)
    (hnext : ∀ k a x, L[k]? = some a → k < L.length → I k x → (∃ x' s', body (S k x) = some (.normal s') ∧ norm keep n0 s' = S (k + 1) x' ∧ I (k + 1) x') ∨ ∃ s', body (S k x) = some (.ret s') ∧ R s')
    (hend : ∀ x, I L.length x → ∀ s, body (S L.length x) ≠ some (.normal s)) {fuel : Nat} (hf : L.length < fuel) (x0 : σ) (hI0 : I 0 x0) (s0 : St) (E : Option Out) (hE : evLoop body keep n0 fuel s0 = E) (h0 : norm keep n0 s0 = S 0 x0) :
    (∃ x, I L.length x ∧ E = body (S L.length x)) ∨ (∃ s, E = some (.ret s) ∧ R s) := by
  subst hE
  have key : ∀ (r : List α) (k fuel : Nat) (s : St) (x : σ), (∀ i, r[i]? = L[k + i]?) → k + r.length = L.length → r.length < fuel → norm keep n0 s = S k x → I k x →
      (∃ x, I L.length x ∧ evLoop body keep n0 fuel s = body (S L.length x)) ∨ (∃ o, evLoop body keep n0 fuel s = some (.ret o) ∧ R o) := by
    intro r
    induction r with
    | nil =>
      intro k fuel s x hr hl hfu hs hx
      obtain ⟨f', rfl⟩ : ∃ f', fuel = f' + 1 := ⟨fuel - 1, by simp at hfu; omega⟩
      have hk : k = L.length := by simpa using hl
      subst hk
      refine .inl ⟨x, hx, ?_⟩
      rw [evLoop, hs]
      cases hb : body (S L.length x) with
      | none => rfl
      | some o => cases o with
        | normal st => exact absurd hb (hend x hx st)
        | exit id st => rfl
        | ret st => rfl
    | cons a r ih =>
      intro k fuel s x hr hl hfu hs hx
      obtain ⟨f', rfl⟩ : ∃ f', fuel = f' + 1 := ⟨fuel - 1, by simp at hfu; omega⟩
      have hla : L[k]? = some a := by simpa using (hr 0).symm
      have hkl : k < L.length := (List.getElem?_eq_some_iff.1 hla).1
      rcases hnext k a x hla hkl hx with ⟨x', s', g2, g3, g4⟩ | ⟨s', g2, g3⟩
      · simp only [evLoop, hs]
        rw [g2]
        exact ih (k + 1) f' s' x' (fun i => by have := hr (i + 1); rw [show k + (i + 1) = k + 1 + i by omega] at this; simpa using this) (by simp at hl; omega) (by simp at hfu; omega) g3 g4
      · refine .inr ⟨s', ?_, g3⟩
        simp only [evLoop, hs]
        rw [g2]
  exact key L 0 fuel s0 x0 (fun i => by simp) (by simp) hf h0 hI0


/-- ANY LOOP, BY A NUMBER THAT SINKS -/
theorem loop_while {σ : Type} {body : St → Option Out} {keep : List Nat} {n0 : Nat} (S : σ → St) (μ : σ → Nat) (I : σ → Prop) (R : Out → Prop)
    (h : ∀ x, I x → (∃ x' s', body (S x) = some (.normal s') ∧ norm keep n0 s' = S x' ∧ I x' ∧ μ x' < μ x) ∨ ∃ o, body (S x) = some o ∧ (∀ s, o ≠ .normal s) ∧ R o) {fuel : Nat} (x0 : σ) (hI0 : I x0) (hf : μ x0 < fuel) (s0 : St) (E : Option Out) (hE : evLoop body keep n0 fuel s0 = E) (h0 : norm keep n0 s0 = S x0) :
    ∃ o, E = some o ∧ R o := by
  subst hE
  induction fuel generalizing x0 s0 with
  | zero => omega
  | succ f ih =>
    simp only [evLoop, h0]
    rcases h x0 hI0 with ⟨x', s', h1, h2, h3, h4⟩ | ⟨o, h1, h2, h3⟩
    · rw [h1]
      exact ih x' h3 (by omega) s' h2
    · rw [h1]
      cases o with
      | normal s => exact absurd rfl (h2 s)
      | exit id s => exact ⟨_, rfl, h3⟩
      | ret s => exact ⟨_, rfl, h3⟩

/-- A LOOP THAT RETURNS AT THE FIRST OF A KIND -/
theorem loop_find {α : Type} {body : St → Option Out} {keep : List Nat} {n0 : Nat} (L : List α) (S : Nat → St) (q : α → Bool) (R : Nat → St → Prop)
    (hnext : ∀ k a, L[k]? = some a → k < L.length → q a = false → ∃ s', body (S k) = some (.normal s') ∧ norm keep n0 s' = S (k + 1))
    (hstop : ∀ k a, L[k]? = some a → k < L.length → q a = true → ∃ s', body (S k) = some (.ret s') ∧ R k s')
    (hend : ∀ s, body (S L.length) ≠ some (.normal s)) {fuel : Nat} (hf : L.length < fuel) (s0 : St) (E : Option Out) (hE : evLoop body keep n0 fuel s0 = E) (h0 : norm keep n0 s0 = S 0) :
    (L.findIdx? q = none ∧ E = body (S L.length)) ∨ (∃ k, L.findIdx? q = some k ∧ ∃ s, E = some (.ret s) ∧ R k s) := by
  subst hE
  have key : ∀ (r : List α) (k fuel : Nat) (s : St), (∀ i, r[i]? = L[k + i]?) → k + r.length = L.length → r.length < fuel → norm keep n0 s = S k →
      (r.findIdx? q = none ∧ evLoop body keep n0 fuel s = body (S L.length)) ∨ (∃ j, r.findIdx? q = some j ∧ ∃ o, evLoop body keep n0 fuel s = some (.ret o) ∧ R (k + j) o) := by
    intro r
    induction r with
    | nil =>
      intro k fuel s hr hl hfu hs
      obtain ⟨f', rfl⟩ : ∃ f', fuel = f' + 1 := ⟨fuel - 1, by simp at hfu; omega⟩
      have hk : k = L.length := by simpa using hl
      subst hk
      refine .inl ⟨rfl, ?_⟩
      rw [evLoop, hs]
      cases hb : body (S L.length) with
      | none => rfl
      | some o => cases o with
        | normal st => exact absurd hb (hend st)
        | exit id st => rfl
        | ret st => rfl
    | cons a r ih =>
      intro k fuel s hr hl hfu hs
      obtain ⟨f', rfl⟩ : ∃ f', fuel = f' + 1 := ⟨fuel - 1, by simp at hfu; omega⟩
      have hla : L[k]? = some a := by simpa using (hr 0).symm
      have hkl : k < L.length := (List.getElem?_eq_some_iff.1 hla).1
      cases hq : q a
      · obtain ⟨s', g2, g3⟩ := hnext k a hla hkl hq
        simp only [evLoop, hs]
        rw [g2]
        rcases ih (k + 1) f' s' (fun i => by have := hr (i + 1); rw [show k + (i + 1) = k + 1 + i by omega] at this; simpa using this) (by simp at hl; omega) (by simp at hfu; omega) g3 with ⟨h1, h2⟩ | ⟨j, h1, o, h2, h3⟩
        · exact .inl ⟨by simp [List.findIdx?_cons, hq, h1], h2⟩
        · exact .inr ⟨j + 1, by simp [List.findIdx?_cons, hq, h1], o, h2, by rw [show k + (j + 1) = k + 1 + j by omega]; exact h3⟩
      · obtain ⟨s', g2, g3⟩ := hstop k a hla hkl hq
        refine .inr ⟨0, by simp [List.findIdx?_cons, hq], s', ?_, g3⟩
        simp only [evLoop, hs]
        rw [g2]
  rcases key L 0 fuel s0 (fun i => by simp) (by simp) hf h0 with h | ⟨j, h1, o, h2, h3⟩
  · exact .inl h
  · exact .inr ⟨j, h1, o, h2, by simpa using h3⟩

/-- A LOOP THAT RETURNS THE FIRST ERROR, under an invariant -/
theorem loop_firstI {α : Type} {body : St → Option Out} {keep : List Nat} {n0 : Nat} (L : List α) (S : Nat → St) (f : Nat → α → Int) (I : Nat → Prop) (R : Int → St → Prop)
    (hnext : ∀ k a, L[k]? = some a → k < L.length → I k → f k a = 0 → I (k + 1) ∧ ∃ s', body (S k) = some (.normal s') ∧ norm keep n0 s' = S (k + 1))
    (hstop : ∀ k a, L[k]? = some a → k < L.length → I k → f k a ≠ 0 → ∃ s', body (S k) = some (.ret s') ∧ R (f k a) s')
    (hend : ∀ s, body (S L.length) ≠ some (.normal s)) (hI : I 0) {fuel : Nat} (hf : L.length < fuel) (s0 : St) (E : Option Out) (hE : evLoop body keep n0 fuel s0 = E) (h0 : norm keep n0 s0 = S 0) :
    (firstF f L 0 = 0 ∧ I L.length ∧ E = body (S L.length)) ∨ (firstF f L 0 ≠ 0 ∧ ∃ s, E = some (.ret s) ∧ R (firstF f L 0) s) := by
  subst hE
  have key : ∀ (r : List α) (k fuel : Nat) (s : St), (∀ i, r[i]? = L[k + i]?) → k + r.length = L.length → r.length < fuel → norm keep n0 s = S k → I k →
      (firstF f r k = 0 ∧ I L.length ∧ evLoop body keep n0 fuel s = body (S L.length)) ∨ (firstF f r k ≠ 0 ∧ ∃ o, evLoop body keep n0 fuel s = some (.ret o) ∧ R (firstF f r k) o) := by
    intro r
    induction r with
    | nil =>
      intro k fuel s hr hl hfu hs hi
      obtain ⟨f', rfl⟩ : ∃ f', fuel = f' + 1 := ⟨fuel - 1, by simp at hfu; omega⟩
      have hk : k = L.length := by simpa using hl
      subst hk
      refine .inl ⟨rfl, hi, ?_⟩
      rw [evLoop, hs]
      cases hb : body (S L.length) with
      | none => rfl
      | some o => cases o with
        | normal st => exact absurd hb (hend st)
        | exit id st => rfl
        | ret st => rfl
    | cons a r ih =>
      intro k fuel s hr hl hfu hs hi
      obtain ⟨f', rfl⟩ : ∃ f', fuel = f' + 1 := ⟨fuel - 1, by simp at hfu; omega⟩
      have hla : L[k]? = some a := by simpa using (hr 0).symm
      have hkl : k < L.length := (List.getElem?_eq_some_iff.1 hla).1
      by_cases hq : f k a = 0
      · obtain ⟨hi', s', g2, g3⟩ := hnext k a hla hkl hi hq
        simp only [evLoop, hs, firstF, hq, if_true]
        rw [g2]
        exact ih (k + 1) f' s' (fun i => by have := hr (i + 1); rw [show k + (i + 1) = k + 1 + i by omega] at this; simpa using this) (by simp at hl; omega) (by simp at hfu; omega) g3 hi'
      · obtain ⟨s', g2, g3⟩ := hstop k a hla hkl hi hq
        simp only [evLoop, hs, firstF, hq, if_false]
        rw [g2]
        exact .inr ⟨hq, s', rfl, g3⟩
  exact key L 0 fuel s0 (fun i => by simp) (by simp) hf h0 hI

/-- a call, by what the function answers -/
theorem callP_unfr {C : Nat → List PV → Option PV} {bl : Blks} {f : Nat} {args : List PV} {r q : PV} (h : C f args = some r) (hl : PV.lt.ltL 0 args = true) (hq : unfr r = q) (hlt : q.lt 0 = true) : callP C bl false f args = some (q, []) := by
  subst hq
  unfold callP
  rw [if_pos hl, h]
  simp [hlt]

end Go.Proofs.Ytlnaibkpmklkiaa
