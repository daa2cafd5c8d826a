/- What Peak finds. -/
import Derived.Test.YtalmhggbdfjalaaMmQ
namespace Go.Proofs.Ytalmhggbdfjalaa
open Go Go.RowKit
set_option linter.unusedVariables false
set_option linter.unusedSectionVars false
set_option linter.unusedSimpArgs false
set_option maxHeartbeats 4000000

/-- sums of changes -/
def sumC (l : List Sp) : Int := (l.map Prod.snd).sum
theorem sumC_app (l m : List Sp) : sumC (l ++ m) = sumC l + sumC m := by unfold sumC; rw [List.map_append, List.sum_append]
theorem sumC_one (c : Sp) : sumC [c] = c.2 := by simp [sumC]
theorem sumC_perm {l m : List Sp} (h : l.Perm m) : sumC l = sumC m := by
  induction h with
  | nil => rfl
  | cons x _ ih => simp only [sumC, List.map_cons, List.sum_cons] at ih ⊢; omega
  | swap x y _ => simp only [sumC, List.map_cons, List.sum_cons]; omega
  | trans _ _ ih1 ih2 => exact ih1.trans ih2
def atB (t : Int) (c : Sp) : Bool := decide (c.1 ≤ t)
/-- the changes up to a time make what is allocated then -/
theorem live_sum (t : Int) : ∀ (l : List Bk) (o : List Sp) (n : Int), (∀ b ∈ l, b.f < b.e) → n = sumC (o.filter (atB t)) → l.foldl (lvN t) n = sumC ((l.foldl chgN o).filter (atB t))
  | [], o, n, _, h => h
  | b :: l, o, n, hfe, h => by
    rw [List.foldl_cons, List.foldl_cons]
    refine live_sum t l _ _ (fun c hc => hfe c (List.mem_cons_of_mem _ hc)) ?_
    have hb := hfe b (List.mem_cons_self ..)
    unfold chgN lvN
    rw [List.filter_append, sumC_app, ← h]
    by_cases h1 : b.f ≤ t
    · by_cases h2 : b.e ≤ t
      · rw [if_neg (by omega)]
        simp [atB, h1, h2, sumC]
        try omega
      · rw [if_pos (by omega)]
        simp [atB, h1, h2, sumC]
    · have h2 : ¬ b.e ≤ t := by omega
      rw [if_neg (fun h => h1 h.1)]
      simp [atB, h1, h2, sumC]
theorem split_sorted (t : Int) : ∀ (R : List Sp), R.Pairwise (fun a b => a.1 ≤ b.1) → ∃ c, c ≤ R.length ∧ (∀ x ∈ R.take c, x.1 ≤ t) ∧ ∀ x ∈ R.drop c, t < x.1
  | [], _ => ⟨0, by simp, by simp, by simp⟩
  | x :: r, h => by
    have h' := List.pairwise_cons.1 h
    by_cases hx : x.1 ≤ t
    · obtain ⟨c, h1, h2, h3⟩ := split_sorted t r h'.2
      refine ⟨c + 1, by simp; omega, ?_, by simpa using h3⟩
      intro y hy
      rw [List.take_succ_cons] at hy
      rcases List.mem_cons.1 hy with rfl | hy
      · exact hx
      · exact h2 y hy
    · refine ⟨0, by simp, by simp, ?_⟩
      intro y hy
      rw [List.drop_zero] at hy
      rcases List.mem_cons.1 hy with rfl | hy
      · omega
      · have := h'.1 y hy
        omega
theorem filter_take {t : Int} {R : List Sp} {c : Nat} (h1 : ∀ x ∈ R.take c, x.1 ≤ t) (h2 : ∀ x ∈ R.drop c, t < x.1) : R.filter (atB t) = R.take c := by
  conv => lhs; rw [← List.take_append_drop c R]
  rw [List.filter_append]
  have e1 : (R.take c).filter (atB t) = R.take c := List.filter_eq_self.2 fun x hx => by
    unfold atB; simpa using h1 x hx
  have e2 : (R.drop c).filter (atB t) = [] := List.filter_eq_nil_iff.2 fun x hx => by
    have := h2 x hx
    unfold atB
    simp; omega
  rw [e1, e2, List.append_nil]
section
variable (l : List Bk) (hfe : ∀ b ∈ l, b.f < b.e)
include hfe
theorem live_at (t : Int) : ∃ c, c ≤ (Try.srt (chg l)).length ∧ live l t = sumC ((Try.srt (chg l)).take c) ∧ (∀ j x, j < c → (Try.srt (chg l))[j]? = some x → x.1 ≤ t) ∧ ∀ j x, c ≤ j → (Try.srt (chg l))[j]? = some x → t < x.1 := by
  have hs := srt_sorted (chg l)
  have hp := srt_perm (chg l)
  have hv : live l t = sumC ((Try.srt (chg l)).filter (atB t)) := by
    rw [sumC_perm (hp.filter (atB t))]
    exact live_sum t l [] 0 hfe (by simp [sumC])
  generalize Try.srt (chg l) = R at *
  obtain ⟨c, h1, h2, h3⟩ := split_sorted t R hs
  refine ⟨c, h1, by rw [hv, filter_take h2 h3], fun j x hj hx => h2 x ?_, fun j x hj hx => h3 x ?_⟩
  · refine List.mem_iff_getElem?.2 ⟨j, ?_⟩
    rw [List.getElem?_take, if_pos hj, hx]
  · refine List.mem_iff_getElem?.2 ⟨j - c, ?_⟩
    rw [List.getElem?_drop, show c + (j - c) = j by omega, hx]
end
/-- the end of a group of equal times -/
def End (R : List Sp) (j : Nat) (c : Sp) : Prop := R[j]? = some c ∧ ∀ d, R[j + 1]? = some d → d.1 ≠ c.1
theorem sum_take {R : List Sp} {k : Nat} {c : Sp} (h : R[k]? = some c) : sumC (R.take (k + 1)) = sumC (R.take k) + c.2 := by
  rw [List.take_add_one, h, sumC_app]
  congr 1
  exact sumC_one c
structure Best (R : List Sp) (k : Nat) (x : Int × Int × Int) : Prop where
  s : x.2.2 = sumC (R.take k)
  nn : 0 ≤ x.2.1
  b : (x.2.1 = 0) ∨ ∃ j c, j < k ∧ End R j c ∧ c.1 = x.1 ∧ x.2.1 = sumC (R.take (j + 1)) ∧ ∀ i d, i < j → End R i d → sumC (R.take (i + 1)) < x.2.1
  m : ∀ i d, i < k → End R i d → sumC (R.take (i + 1)) ≤ x.2.1
theorem best (R : List Sp) : ∀ k, k ≤ R.length → Best R k (runP R k)
  | 0, _ => ⟨by simp [runP, sumC], by simp [runP], .inl rfl, fun i d h => by omega⟩
  | k + 1, hk => by
    obtain ⟨h1, h2, h3, h4⟩ := best R k (by omega)
    have e : runP R (k + 1) = stepP R k (runP R k) := rfl
    rw [e]
    generalize runP R k = x at *
    obtain ⟨p, m, s⟩ := x
    simp only at h1 h2 h3 h4
    obtain ⟨c, hc⟩ : ∃ c, R[k]? = some c := ⟨_, List.getElem?_eq_getElem (by omega)⟩
    have hst := sum_take hc
    -- the time goes on
    have hno : (∃ d, R[k + 1]? = some d ∧ d.1 = c.1) → Best R (k + 1) (p, m, s + c.2) := by
      rintro ⟨d, hd, hdc⟩
      refine ⟨by simp only; rw [hst, h1], h2, ?_, ?_⟩
      · rcases h3 with h3 | ⟨j, c', hj, q1, q2⟩
        · exact .inl h3
        · exact .inr ⟨j, c', by omega, q1, q2⟩
      · intro i d' hi hE
        rcases Nat.lt_or_ge i k with h5 | h5
        · exact h4 i d' h5 hE
        · obtain rfl : i = k := by omega
          obtain ⟨q1, q2⟩ := hE
          rw [hc] at q1
          cases q1
          exact absurd hdc (q2 d hd)
    have hyes : End R k c → Best R (k + 1) (if m < s + c.2 then (c.1, s + c.2, s + c.2) else (p, m, s + c.2)) := by
      intro hE
      have hsum : s + c.2 = sumC (R.take (k + 1)) := by rw [hst, h1]
      by_cases h5 : m < s + c.2
      · rw [if_pos h5]
        refine ⟨hsum, by simp only; omega, .inr ⟨k, c, by omega, hE, rfl, hsum, fun i d hi hEi => ?_⟩, fun i d hi hEi => ?_⟩
        · have := h4 i d hi hEi
          simp only; omega
        · rcases Nat.lt_or_ge i k with h6 | h6
          · have := h4 i d h6 hEi
            simp only; omega
          · obtain rfl : i = k := by omega
            simp only; omega
      · rw [if_neg h5]
        refine ⟨hsum, h2, ?_, fun i d hi hEi => ?_⟩
        · rcases h3 with h3 | ⟨j, c', hj, q1, q2⟩
          · exact .inl h3
          · exact .inr ⟨j, c', by omega, q1, q2⟩
        · rcases Nat.lt_or_ge i k with h6 | h6
          · exact h4 i d h6 hEi
          · obtain rfl : i = k := by omega
            simp only; omega
    unfold stepP
    rw [hc]
    simp only
    cases hd : R[k + 1]? with
    | some d =>
      simp only
      by_cases h5 : d.1 = c.1
      · rw [if_pos h5]
        exact hno ⟨d, hd, h5⟩
      · rw [if_neg h5]
        exact hyes ⟨hc, fun d' hd' => by rw [hd] at hd'; cases hd'; exact h5⟩
    | none =>
      simp only
      exact hyes ⟨hc, fun d' hd' => by rw [hd] at hd'; cases hd'⟩
/-- what Peak answers -/
structure Pk (l : List Bk) (p m : Int) : Prop where
  a : live l p = m
  b : ∀ t, live l t ≤ m
  c : ∀ t, t < p → live l t < m
theorem lvN_ge (t : Int) (l : List Bk) (hs : ∀ b ∈ l, 1 ≤ b.s) : ∀ n : Int, n ≤ l.foldl (lvN t) n := by
  induction l with
  | nil => intro n; simp
  | cons b l ih =>
    intro n
    rw [List.foldl_cons]
    have := ih (fun c hc => hs c (List.mem_cons_of_mem _ hc)) (lvN t n b)
    have h2 : n ≤ lvN t n b := by
      unfold lvN
      have := hs b (List.mem_cons_self ..)
      split <;> omega
    omega
theorem peak (l : List Bk) (hne : l ≠ []) (hs : ∀ b ∈ l, 1 ≤ b.s) (hfe : ∀ b ∈ l, b.f < b.e) : Pk l (runP (Try.srt (chg l)) (chg l).length).1 (runP (Try.srt (chg l)) (chg l).length).2.1 := by
  have hL := live_at l hfe
  have hB := best (Try.srt (chg l)) (chg l).length (by rw [srt_len]; exact Nat.le_refl _)
  have hsrt := srt_sorted (chg l)
  have hrl := srt_len (chg l)
  generalize Try.srt (chg l) = R at *
  rw [← hrl] at hB ⊢
  generalize runP R R.length = x at *
  obtain ⟨p, m, s⟩ := x
  obtain ⟨-, h2, h3, h4⟩ := hB
  simp only at h2 h3 h4 ⊢
  -- a place where a time ends
  have hend : ∀ c, 0 < c → c ≤ R.length → ∀ t, (∀ j x, j < c → R[j]? = some x → x.1 ≤ t) → (∀ j x, c ≤ j → R[j]? = some x → t < x.1) → ∃ d, End R (c - 1) d := by
    intro c hc0 hc t q1 q2
    obtain ⟨d, hd⟩ : ∃ d, R[c - 1]? = some d := ⟨_, List.getElem?_eq_getElem (by omega)⟩
    refine ⟨d, hd, fun e he => ?_⟩
    rw [show c - 1 + 1 = c by omega] at he
    have := q1 (c - 1) d (by omega) hd
    have := q2 c e (Nat.le_refl _) he
    omega
  have hle : ∀ t, live l t ≤ m := by
    intro t
    obtain ⟨c, hc, hv, q1, q2⟩ := hL t
    rw [hv]
    rcases Nat.eq_zero_or_pos c with h0 | h0
    · rw [h0, List.take_zero]; exact h2
    · obtain ⟨d, hE⟩ := hend c h0 hc t q1 q2
      have := h4 (c - 1) d (by omega) hE
      rw [show c - 1 + 1 = c by omega] at this
      exact this
  have hm : 1 ≤ m := by
    cases l with
    | nil => exact absurd rfl hne
    | cons b l =>
      have h5 := hle b.f
      have h6 := lvN_ge b.f l (fun c hc => hs c (List.mem_cons_of_mem _ hc)) (lvN b.f 0 b)
      have h7 := hs b (List.mem_cons_self ..)
      have h8 := hfe b (List.mem_cons_self ..)
      have h9 : lvN b.f 0 b = b.s := by
        unfold lvN
        rw [if_pos ⟨Int.le_refl _, h8⟩]; omega
      have h10 : live (b :: l) b.f = l.foldl (lvN b.f) (lvN b.f 0 b) := rfl
      omega
  rcases h3 with h3 | ⟨j, c, hj, hE, hcp, hmj, hlt⟩
  · omega
  -- elements are in order
  have hord : ∀ (i k : Nat) (a b : Sp), i ≤ k → R[i]? = some a → R[k]? = some b → a.1 ≤ b.1 := by
    intro i k a b hik ha hb
    rcases Nat.lt_or_ge i k with h5 | h5
    · obtain ⟨h6, rfl⟩ := List.getElem?_eq_some_iff.1 ha
      obtain ⟨h7, rfl⟩ := List.getElem?_eq_some_iff.1 hb
      exact List.pairwise_iff_getElem.1 hsrt i k h6 h7 h5
    · obtain rfl : i = k := by omega
      rw [ha] at hb
      cases hb
      exact Int.le_refl _
  refine ⟨?_, hle, ?_⟩
  · obtain ⟨k, hk, hv, q1, q2⟩ := hL p
    have : k = j + 1 := by
      rcases Nat.lt_trichotomy k (j + 1) with h5 | h5 | h5
      · have := q2 j c (by omega) hE.1
        omega
      · exact h5
      · obtain ⟨d, hd⟩ : ∃ d, R[j + 1]? = some d := ⟨_, List.getElem?_eq_getElem (by omega)⟩
        have h6 := q1 (j + 1) d (by omega) hd
        have h7 := hord j (j + 1) c d (by omega) hE.1 hd
        exact absurd (by omega) (hE.2 d hd)
    rw [hv, this, ← hmj]
  · intro t ht
    obtain ⟨k, hk, hv, q1, q2⟩ := hL t
    rw [hv]
    rcases Nat.eq_zero_or_pos k with h0 | h0
    · rw [h0, List.take_zero]
      show (0 : Int) < m
      omega
    · obtain ⟨d, hEd⟩ := hend k h0 hk t q1 q2
      have hkj : k - 1 < j := by
        rcases Nat.lt_or_ge (k - 1) j with h5 | h5
        · exact h5
        · have h6 := q1 (k - 1) d (by omega) hEd.1
          have h7 := hord j (k - 1) c d h5 hE.1 hEd.1
          omega
      have := hlt (k - 1) d hkj hEd
      rw [show k - 1 + 1 = k by omega] at this
      exact this
end Go.Proofs.Ytalmhggbdfjalaa
