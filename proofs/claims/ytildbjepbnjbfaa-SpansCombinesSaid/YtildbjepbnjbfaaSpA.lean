/- spans: plain facts on lists of spans (no program). -/
import Derived.Orders
namespace Go.Proofs.Ytildbjepbnjbfaa
set_option linter.unusedVariables false
set_option linter.unusedSimpArgs false

abbrev Sp := Int × Int
def MT : Int := 1000000000000
def vl (s : Sp) : Prop := 0 ≤ s.1 ∧ s.1 < s.2 ∧ s.2 ≤ MT
instance (s : Sp) : Decidable (vl s) := by unfold vl; infer_instance
/-- a time is in one of the spans -/
def inS (t : Int) (l : List Sp) : Prop := ∃ s ∈ l, s.1 ≤ t ∧ t < s.2
/-- a time is in the set of a list -/
def setOf (t : Int) (l : List Sp) : Prop := ∃ s ∈ l, vl s ∧ s.1 ≤ t ∧ t < s.2
/-- a list is normal -/
def Nrm (l : List Sp) : Prop := (∀ s ∈ l, vl s) ∧ l.Pairwise (fun a b => a.2 < b.1)

theorem nrm_nil : Nrm [] := ⟨by simp, .nil⟩
theorem nrm_cons {s : Sp} {l : List Sp} : Nrm (s :: l) ↔ vl s ∧ (∀ u ∈ l, s.2 < u.1) ∧ Nrm l := by
  unfold Nrm
  simp only [List.mem_cons, forall_eq_or_imp, List.pairwise_cons]
  constructor
  · rintro ⟨⟨a, b⟩, c, d⟩; exact ⟨a, c, b, d⟩
  · rintro ⟨a, c, b, d⟩; exact ⟨⟨a, b⟩, c, d⟩
theorem inS_cons {t : Int} {s : Sp} {l : List Sp} : inS t (s :: l) ↔ (s.1 ≤ t ∧ t < s.2) ∨ inS t l := by
  unfold inS; simp
theorem inS_nil {t : Int} : ¬ inS t [] := by simp [inS]
theorem setOf_cons {t : Int} {s : Sp} {l : List Sp} : setOf t (s :: l) ↔ (vl s ∧ s.1 ≤ t ∧ t < s.2) ∨ setOf t l := by
  unfold setOf; simp
theorem setOf_nil {t : Int} : ¬ setOf t [] := by simp [setOf]
theorem setOf_app {t : Int} {a b : List Sp} : setOf t (a ++ b) ↔ setOf t a ∨ setOf t b := by
  unfold setOf
  simp only [List.mem_append]
  constructor
  · rintro ⟨s, h | h, r⟩
    · exact .inl ⟨s, h, r⟩
    · exact .inr ⟨s, h, r⟩
  · rintro (⟨s, h, r⟩ | ⟨s, h, r⟩)
    · exact ⟨s, .inl h, r⟩
    · exact ⟨s, .inr h, r⟩
theorem inS_app {t : Int} {a b : List Sp} : inS t (a ++ b) ↔ inS t a ∨ inS t b := by
  unfold inS
  simp only [List.mem_append]
  constructor
  · rintro ⟨s, h | h, r⟩
    · exact .inl ⟨s, h, r⟩
    · exact .inr ⟨s, h, r⟩
  · rintro (⟨s, h, r⟩ | ⟨s, h, r⟩)
    · exact ⟨s, .inl h, r⟩
    · exact ⟨s, .inr h, r⟩
theorem setOf_nrm {t : Int} {l : List Sp} (h : Nrm l) : setOf t l ↔ inS t l := by
  constructor
  · rintro ⟨s, hs, _, r⟩; exact ⟨s, hs, r⟩
  · rintro ⟨s, hs, r⟩; exact ⟨s, hs, h.1 s hs, r⟩
theorem setOf_perm {t : Int} {a b : List Sp} (h : ∀ s, s ∈ a ↔ s ∈ b) : setOf t a ↔ setOf t b := by
  unfold setOf
  constructor
  · rintro ⟨s, hs, r⟩; exact ⟨s, (h s).1 hs, r⟩
  · rintro ⟨s, hs, r⟩; exact ⟨s, (h s).2 hs, r⟩
theorem setOf_filter {t : Int} {l : List Sp} : inS t (l.filter fun s => decide (vl s)) ↔ setOf t l := by
  unfold inS setOf
  simp only [List.mem_filter, decide_eq_true_eq]
  constructor
  · rintro ⟨s, ⟨a, b⟩, c⟩; exact ⟨s, a, b, c⟩
  · rintro ⟨s, a, b, c⟩; exact ⟨s, ⟨a, b⟩, c⟩

/-- a normal list is its set's only one -/
theorem nrm_unique : ∀ {a b : List Sp}, Nrm a → Nrm b → (∀ t, inS t a ↔ inS t b) → a = b
  | [], [], _, _, _ => rfl
  | [], u :: b, _, hb, h => by
    obtain ⟨v, _⟩ := nrm_cons.1 hb
    have := (h u.1).2 (inS_cons.2 (.inl ⟨by omega, v.2.1⟩))
    exact absurd this inS_nil
  | s :: a, [], ha, _, h => by
    obtain ⟨v, _⟩ := nrm_cons.1 ha
    have := (h s.1).1 (inS_cons.2 (.inl ⟨by omega, v.2.1⟩))
    exact absurd this inS_nil
  | s :: a, u :: b, ha, hb, h => by
    obtain ⟨va, la, na⟩ := nrm_cons.1 ha
    obtain ⟨vb, lb, nb⟩ := nrm_cons.1 hb
    have low : ∀ {s : Sp} {a : List Sp}, vl s → (∀ u ∈ a, s.2 < u.1) → ∀ t, inS t (s :: a) → s.1 ≤ t := by
      intro s a v l t ht
      rcases inS_cons.1 ht with h | ⟨x, hx, h1, h2⟩
      · exact h.1
      · have := l x hx
        have := v.2.1
        omega
    have e1 : s.1 = u.1 := by
      have h1 := low va la u.1 ((h u.1).2 (inS_cons.2 (.inl ⟨by omega, vb.2.1⟩)))
      have h2 := low vb lb s.1 ((h s.1).1 (inS_cons.2 (.inl ⟨by omega, va.2.1⟩)))
      omega
    have edge : ∀ {s u : Sp} {a b : List Sp}, vl s → (∀ x ∈ a, s.2 < x.1) → s.1 = u.1 → s.2 < u.2 → ¬ (inS s.2 (u :: b) → inS s.2 (s :: a)) := by
      intro s u a b v l e hlt hh
      have v2 := v.2.1
      have := hh (inS_cons.2 (.inl ⟨by omega, hlt⟩))
      rcases inS_cons.1 this with h | ⟨x, hx, h1, h2⟩
      · omega
      · have := l x hx
        omega
    have e2 : s.2 = u.2 := by
      rcases Int.lt_trichotomy s.2 u.2 with hc | hc | hc
      · exact absurd (h s.2).2 (edge va la e1 hc)
      · exact hc
      · exact absurd (h u.2).1 (edge vb lb e1.symm hc)
    have es : s = u := Prod.ext e1 e2
    subst es
    have tail : ∀ {a : List Sp}, (∀ x ∈ a, s.2 < x.1) → ∀ t, inS t a ↔ inS t (s :: a) ∧ s.2 ≤ t := by
      intro a l t
      constructor
      · rintro ⟨x, hx, h1, h2⟩
        refine ⟨inS_cons.2 (.inr ⟨x, hx, h1, h2⟩), ?_⟩
        have := l x hx
        omega
      · rintro ⟨h1, h2⟩
        rcases inS_cons.1 h1 with h | h
        · omega
        · exact h
    rw [nrm_unique na nb fun t => by rw [tail la, tail lb, h t]]

/-- what is normal already is not changed -/
theorem nrm_same {a b : List Sp} (ha : Nrm a) (hb : Nrm b) (h : ∀ t, setOf t a ↔ setOf t b) : a = b :=
  nrm_unique ha hb fun t => by rw [← setOf_nrm ha, ← setOf_nrm hb]; exact h t

/-! Normal: the loop that joins -/
def joinF : List Sp → List Sp → List Sp
  | r, [] => r.reverse
  | [], s :: l => joinF [s] l
  | x :: r, s :: l => if s.1 ≤ x.2 then joinF ((x.1, if x.2 < s.2 then s.2 else x.2) :: r) l else joinF (s :: x :: r) l
/-- what has been joined, the last first -/
def RN (r : List Sp) : Prop := (∀ s ∈ r, vl s) ∧ r.Pairwise (fun a b => b.2 < a.1)
theorem rn_rev {r : List Sp} (h : RN r) : Nrm r.reverse := ⟨by simpa using h.1, List.pairwise_reverse.2 h.2⟩
theorem rn_cons {s : Sp} {l : List Sp} : RN (s :: l) ↔ vl s ∧ (∀ u ∈ l, u.2 < s.1) ∧ RN l := by
  unfold RN
  simp only [List.mem_cons, forall_eq_or_imp, List.pairwise_cons]
  constructor
  · rintro ⟨⟨a, b⟩, c, d⟩; exact ⟨a, c, b, d⟩
  · rintro ⟨a, c, b, d⟩; exact ⟨⟨a, b⟩, c, d⟩
theorem inS_rev {t : Int} {l : List Sp} : inS t l.reverse ↔ inS t l := by simp [inS]
theorem joinF_spec : ∀ (l r : List Sp), RN r → (∀ s ∈ l, vl s) → l.Pairwise (fun a b => a.1 ≤ b.1) → (∀ x ∈ r.head?, ∀ s ∈ l, x.1 ≤ s.1) → Nrm (joinF r l) ∧ ∀ t, inS t (joinF r l) ↔ inS t r ∨ inS t l
  | [], r, hr, _, _, _ => by
    have e : joinF r [] = r.reverse := by unfold joinF; rfl
    rw [e]
    exact ⟨rn_rev hr, fun t => by rw [inS_rev]; simp [inS_nil]⟩
  | s :: l, [], hr, hv, hp, hh => by
    obtain ⟨hp1, hp2⟩ := List.pairwise_cons.1 hp
    obtain ⟨a, b⟩ := joinF_spec l [s] (rn_cons.2 ⟨hv s (by simp), by simp, ⟨by simp, .nil⟩⟩) (fun u hu => hv u (by simp [hu])) hp2 (by simpa using fun x y h => hp1 _ h)
    unfold joinF
    refine ⟨a, fun t => ?_⟩
    rw [b t, inS_cons, inS_cons]
    simp [inS_nil]
  | s :: l, x :: r, hr, hv, hp, hh => by
    obtain ⟨hp1, hp2⟩ := List.pairwise_cons.1 hp
    obtain ⟨vx, lx, hr'⟩ := rn_cons.1 hr
    have vs := hv s (by simp)
    have hxs : x.1 ≤ s.1 := hh x (by simp) s (by simp)
    unfold joinF
    split
    · rename_i hc
      have hv1 : vl (x.1, if x.2 < s.2 then s.2 else x.2) := by
        unfold vl at *
        simp only
        split <;> omega
      obtain ⟨a, b⟩ := joinF_spec l ((x.1, if x.2 < s.2 then s.2 else x.2) :: r) (rn_cons.2 ⟨hv1, lx, hr'⟩) (fun u hu => hv u (by simp [hu])) hp2 (by
        intro y hy u hu
        simp at hy
        subst hy
        have := hp1 u hu
        simp only; omega)
      refine ⟨a, fun t => ?_⟩
      rw [b t, inS_cons, inS_cons, inS_cons]
      simp only
      by_cases hr : inS t r <;> by_cases hl : inS t l <;> simp only [hr, hl, or_true, true_or, or_false, false_or, iff_self]
      split <;> unfold vl at * <;> omega
    · rename_i hc
      obtain ⟨a, b⟩ := joinF_spec l (s :: x :: r) (rn_cons.2 ⟨vs, by
        intro u hu
        rcases List.mem_cons.1 hu with rfl | hu
        · omega
        · have := lx u hu
          unfold vl at *; omega, hr⟩) (fun u hu => hv u (by simp [hu])) hp2 (by
        intro y hy u hu
        simp at hy
        subst hy
        exact hp1 u hu)
      refine ⟨a, fun t => ?_⟩
      rw [b t, inS_cons (l := x :: r), inS_cons (s := s) (l := l)]
      by_cases h1 : inS t (x :: r) <;> by_cases h2 : inS t l <;> by_cases h3 : s.1 ≤ t ∧ t < s.2 <;> simp [h1, h2, h3]

/-! Meet: two lists, read together -/
def meetF : Nat → List Sp → List Sp → List Sp
  | 0, _, _ => []
  | _ + 1, [], _ => []
  | _ + 1, _, [] => []
  | n + 1, x :: a, y :: b =>
    let s : Sp := (if x.1 < y.1 then y.1 else x.1, if y.2 < x.2 then y.2 else x.2)
    let r := if x.2 < y.2 then meetF n a (y :: b) else meetF n (x :: a) b
    if s.1 < s.2 then s :: r else r
theorem meetF_spec : ∀ (n : Nat) (a b : List Sp), a.length + b.length ≤ n → Nrm a → Nrm b → Nrm (meetF n a b) ∧ (∀ t, inS t (meetF n a b) ↔ inS t a ∧ inS t b) ∧ ∀ s ∈ meetF n a b, (∃ x ∈ a, x.1 ≤ s.1) ∧ ∃ y ∈ b, y.1 ≤ s.1
  | 0, a, b, hn, ha, hb => by
    have : a = [] := List.length_eq_zero_iff.1 (by omega)
    subst this
    unfold meetF
    exact ⟨nrm_nil, fun t => by simp [inS_nil], by simp⟩
  | n + 1, [], b, hn, ha, hb => by
    unfold meetF
    exact ⟨nrm_nil, fun t => by simp [inS_nil], by simp⟩
  | n + 1, x :: a, [], hn, ha, hb => by
    unfold meetF
    exact ⟨nrm_nil, fun t => by simp [inS_nil], by simp⟩
  | n + 1, x :: a, y :: b, hn, ha, hb => by
    obtain ⟨vx, lx, ha'⟩ := nrm_cons.1 ha
    obtain ⟨vy, ly, hb'⟩ := nrm_cons.1 hb
    simp only [List.length_cons] at hn
    have far : ∀ {a : List Sp} {x : Sp} {t : Int}, (∀ u ∈ a, x.2 < u.1) → t < x.2 → ¬ inS t a := by
      rintro a x t l h ⟨u, hu, h1, h2⟩
      have := l u hu
      omega
    unfold meetF
    simp only
    obtain ⟨s, hs⟩ : ∃ s : Sp, (if x.1 < y.1 then y.1 else x.1, if y.2 < x.2 then y.2 else x.2) = s := ⟨_, rfl⟩
    have s1 : s.1 = if x.1 < y.1 then y.1 else x.1 := by rw [← hs]
    have s2 : s.2 = if y.2 < x.2 then y.2 else x.2 := by rw [← hs]
    rw [← s1, ← s2]
    have key : ∀ (r : List Sp), Nrm r → (∀ u ∈ r, s.2 < u.1) → (∀ t, inS t r ↔ inS t (x :: a) ∧ inS t (y :: b) ∧ s.2 ≤ t) → (∀ u ∈ r, (∃ p ∈ x :: a, p.1 ≤ u.1) ∧ ∃ q ∈ y :: b, q.1 ≤ u.1) →
        Nrm (if s.1 < s.2 then (s.1, s.2) :: r else r) ∧ (∀ t, inS t (if s.1 < s.2 then (s.1, s.2) :: r else r) ↔ inS t (x :: a) ∧ inS t (y :: b)) ∧ ∀ u ∈ (if s.1 < s.2 then (s.1, s.2) :: r else r), (∃ p ∈ x :: a, p.1 ≤ u.1) ∧ ∃ q ∈ y :: b, q.1 ≤ u.1 := by
      intro r hr hl hm hlow
      have small : ∀ t, t < s.2 → (inS t (x :: a) ∧ inS t (y :: b) ↔ s.1 ≤ t) := by
        intro t ht
        have h1 : t < x.2 ∧ t < y.2 := by rw [s2] at ht; split at ht <;> omega
        rw [inS_cons, inS_cons]
        have f1 := far lx h1.1
        have f2 := far ly h1.2
        simp only [f1, f2, or_false]
        rw [s1]
        split <;> omega
      have mem : ∀ t, (inS t (x :: a) ∧ inS t (y :: b)) ↔ (s.1 ≤ t ∧ t < s.2) ∨ inS t r := by
        intro t
        rw [hm t]
        rcases Int.lt_or_le t s.2 with h | h
        · rw [small t h]
          constructor
          · exact fun q => .inl ⟨q, h⟩
          · rintro (q | q)
            · exact q.1
            · omega
        · constructor
          · exact fun q => .inr ⟨q.1, q.2, h⟩
          · rintro (q | q)
            · omega
            · exact ⟨q.1, q.2.1⟩
      split
      · rename_i hc
        refine ⟨nrm_cons.2 ⟨?_, hl, hr⟩, fun t => by rw [inS_cons, mem t], ?_⟩
        · unfold vl at *
          simp only
          rw [s1, s2] at *
          split <;> split <;> (try split at hc) <;> omega
        · intro u hu
          rcases List.mem_cons.1 hu with rfl | hu
          · refine ⟨⟨x, by simp, ?_⟩, y, by simp, ?_⟩ <;> simp only <;> rw [s1] <;> split <;> omega
          · exact hlow u hu
      · rename_i hc
        refine ⟨hr, fun t => ?_, hlow⟩
        rw [mem t]
        constructor
        · exact .inr
        · rintro (h | h)
          · omega
          · exact h
    by_cases hc : x.2 < y.2
    · rw [if_pos hc]
      have e2 : s.2 = x.2 := by rw [s2]; split <;> omega
      obtain ⟨q1, q2, q3⟩ := meetF_spec n a (y :: b) (by simp only [List.length_cons]; omega) ha' hb
      refine key _ q1 (fun u hu => ?_) (fun t => ?_) (fun u hu => ?_)
      · obtain ⟨⟨p, hp, h1⟩, _⟩ := q3 u hu
        have := lx p hp
        omega
      · rw [q2 t, inS_cons (s := x)]
        constructor
        · rintro ⟨h1, h2⟩
          refine ⟨.inr h1, h2, ?_⟩
          obtain ⟨p, hp, h3, h4⟩ := h1
          have := lx p hp
          omega
        · rintro ⟨h1, h2, h3⟩
          refine ⟨?_, h2⟩
          rcases h1 with h1 | h1
          · omega
          · exact h1
      · obtain ⟨⟨p, hp, h1⟩, h2⟩ := q3 u hu
        exact ⟨⟨p, List.mem_cons_of_mem _ hp, h1⟩, h2⟩
    · rw [if_neg hc]
      have e2 : s.2 = y.2 := by rw [s2]; split <;> omega
      obtain ⟨q1, q2, q3⟩ := meetF_spec n (x :: a) b (by simp only [List.length_cons]; omega) ha hb'
      refine key _ q1 (fun u hu => ?_) (fun t => ?_) (fun u hu => ?_)
      · obtain ⟨_, p, hp, h1⟩ := q3 u hu
        have := ly p hp
        omega
      · rw [q2 t, inS_cons (s := y)]
        constructor
        · rintro ⟨h1, h2⟩
          refine ⟨h1, .inr h2, ?_⟩
          obtain ⟨p, hp, h3, h4⟩ := h2
          have := ly p hp
          omega
        · rintro ⟨h1, h2, h3⟩
          refine ⟨h1, ?_⟩
          rcases h2 with h2 | h2
          · omega
          · exact h2
      · obtain ⟨h2, p, hp, h1⟩ := q3 u hu
        exact ⟨h2, p, List.mem_cons_of_mem _ hp, h1⟩

/-! gaps: what a normal list leaves out -/
def gapF : Int → List Sp → List Sp
  | f, [] => [(f, MT)]
  | f, s :: l => (f, s.1) :: gapF s.2 l
theorem gapF_spec : ∀ (l : List Sp) (f : Int), 0 ≤ f → f ≤ MT → Nrm l → (∀ s ∈ l, f ≤ s.1) → ∀ t, setOf t (gapF f l) ↔ f ≤ t ∧ t < MT ∧ ¬ inS t l
  | [], f, h0, h1, hl, hf, t => by
    unfold gapF
    rw [setOf_cons]
    simp only [inS_nil, not_false_iff, and_true, setOf_nil, or_false]
    unfold vl MT at *
    simp only
    omega
  | s :: l, f, h0, h1, hl, hf, t => by
    obtain ⟨vs, ls, hl'⟩ := nrm_cons.1 hl
    have hs := hf s (by simp)
    unfold gapF
    rw [setOf_cons, gapF_spec l s.2 (by unfold vl at vs; omega) vs.2.2 hl' (fun u hu => by have := ls u hu; omega) t, inS_cons]
    have far : t < s.2 → ¬ inS t l := by
      rintro h ⟨u, hu, h1, h2⟩
      have := ls u hu
      omega
    unfold vl at *
    simp only
    constructor
    · rintro (h | h)
      · refine ⟨by omega, by omega, ?_⟩
        rintro (q | q)
        · omega
        · exact far (by omega) q
      · exact ⟨by omega, by omega, fun q => q.elim (by omega) h.2.2⟩
    · rintro ⟨q1, q2, q3⟩
      rcases Int.lt_or_le t s.1 with h | h
      · exact .inl ⟨by omega, by omega, h⟩
      · exact .inr ⟨by rcases Int.lt_or_le t s.2 with h' | h'
                       · exact absurd (.inl ⟨h, h'⟩) q3
                       · exact h', q2, fun q => q3 (.inr q)⟩
end Go.Proofs.Ytildbjepbnjbfaa
