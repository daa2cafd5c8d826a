/- Sums of fractions. -/
import Derived.Test.YtddglikicokpeaaDoorFrR
namespace Go.Proofs.YtddglikicokpeaaDoor
set_option linter.unusedVariables false
set_option linter.unusedSimpArgs false

abbrev Fr := Int × Int
def lcmF (m : Nat) (l : List Fr) : Nat := l.foldl (fun m a => Nat.lcm m a.2.natAbs) m
def sumR : List Fr → Rat
  | [] => 0
  | a :: l => R a + sumR l
def okL (l : List Fr) : Prop := (∀ a ∈ l, validF a) ∧ lcmF 1 l ≤ 1000000000000000
instance (l : List Fr) : Decidable (okL l) := by unfold okL; infer_instance
def sumS (l : List Fr) : Fr × Bool := if l.length ≤ 20000 ∧ okL l then toF (sumR l) else ((0, 0), false)

theorem sumR_app : ∀ a b : List Fr, sumR (a ++ b) = sumR a + sumR b
  | [], b => by simp [sumR, Rat.zero_add]
  | x :: a, b => by simp [sumR, sumR_app a b, Rat.add_assoc]
theorem sumR_perm {a b : List Fr} (h : a.Perm b) : sumR a = sumR b := by
  induction h with
  | nil => rfl
  | cons x _ ih => simp [sumR, ih]
  | swap x y l => simp [sumR, ← Rat.add_assoc, Rat.add_comm (R x)]
  | trans _ _ h1 h2 => exact h1.trans h2
theorem lcmF_dvd : ∀ (l : List Fr) (m n : Nat), lcmF m l ∣ n ↔ m ∣ n ∧ ∀ a ∈ l, a.2.natAbs ∣ n
  | [], m, n => by simp [lcmF]
  | a :: l, m, n => by
    have ih := lcmF_dvd l (Nat.lcm m a.2.natAbs) n
    simp only [lcmF, List.foldl_cons] at ih ⊢
    rw [ih]
    constructor
    · rintro ⟨h1, h2⟩
      refine ⟨Nat.dvd_trans (Nat.dvd_lcm_left _ _) h1, fun b hb => ?_⟩
      rcases List.mem_cons.1 hb with rfl | hb
      · exact Nat.dvd_trans (Nat.dvd_lcm_right _ _) h1
      · exact h2 b hb
    · rintro ⟨h1, h2⟩
      exact ⟨Nat.lcm_dvd h1 (h2 a (by simp)), fun b hb => h2 b (by simp [hb])⟩
theorem lcmF_mem {a b : List Fr} (h : ∀ x, x ∈ a ↔ x ∈ b) : lcmF 1 a = lcmF 1 b := by
  refine Nat.dvd_antisymm ?_ ?_
  · rw [lcmF_dvd]
    obtain ⟨h1, h2⟩ := (lcmF_dvd b 1 (lcmF 1 b)).1 (Nat.dvd_refl _)
    exact ⟨h1, fun x hx => h2 x ((h x).1 hx)⟩
  · rw [lcmF_dvd]
    obtain ⟨h1, h2⟩ := (lcmF_dvd a 1 (lcmF 1 a)).1 (Nat.dvd_refl _)
    exact ⟨h1, fun x hx => h2 x ((h x).2 hx)⟩
theorem lcmF_pos {l : List Fr} (h : ∀ a ∈ l, validF a) : ∀ m, 0 < m → 0 < lcmF m l := by
  induction l with
  | nil => intro m hm; exact hm
  | cons a l ih =>
    intro m hm
    have := (h a (by simp)).1
    exact ih (fun b hb => h b (by simp [hb])) _ (Nat.lcm_pos hm (by omega))
theorem sumS_perm {a b : List Fr} (h : a.Perm b) : sumS a = sumS b := by
  have e1 := h.length_eq
  have e2 := lcmF_mem (fun x => h.mem_iff (a := x))
  have e3 := sumR_perm h
  have e4 : okL a ↔ okL b := by
    unfold okL
    rw [e2]
    constructor
    · rintro ⟨x, y⟩; exact ⟨fun c hc => x c (h.mem_iff.2 hc), y⟩
    · rintro ⟨x, y⟩; exact ⟨fun c hc => x c (h.mem_iff.1 hc), y⟩
  unfold sumS
  rw [e1, e3]
  by_cases h1 : b.length ≤ 20000 ∧ okL b
  · rw [if_pos h1, if_pos ⟨h1.1, e4.2 h1.2⟩]
  · rw [if_neg h1, if_neg (fun h => h1 ⟨h.1, e4.1 h.2⟩)]
/-- over a common denominator -/
def numS (m : Nat) : List Fr → Int
  | [] => 0
  | a :: l => a.1 * ((m / a.2.natAbs : Nat) : Int) + numS m l
theorem R_over {a : Fr} {m : Nat} (hm : 0 < m) (ha : validF a) (hd : a.2.natAbs ∣ m) : mkRat (a.1 * ((m / a.2.natAbs : Nat) : Int)) m = R a := by
  have h1 := ha.1
  obtain ⟨k, hk⟩ := hd
  have hp : 0 < a.2.natAbs := by omega
  have hk0 : k ≠ 0 := fun e => by subst e; omega
  have e : m / a.2.natAbs = k := by rw [hk]; exact Nat.mul_div_cancel_left _ hp
  unfold R
  rw [e, show a.2.toNat = a.2.natAbs by omega, hk, Rat.mkRat_mul_right hk0]
theorem numS_R {m : Nat} (hm : 0 < m) : ∀ {l : List Fr}, (∀ a ∈ l, validF a) → (∀ a ∈ l, a.2.natAbs ∣ m) → mkRat (numS m l) m = sumR l
  | [], _, _ => by simp [numS, sumR, Rat.zero_mkRat]
  | a :: l, hv, hd => by
    have ih := numS_R hm (l := l) (fun b hb => hv b (by simp [hb])) (fun b hb => hd b (by simp [hb]))
    have h1 := R_over hm (hv a (by simp)) (hd a (by simp))
    have hm0 : m ≠ 0 := by omega
    simp only [numS, sumR]
    rw [← ih, ← h1, Rat.mkRat_add_mkRat _ _ hm0 hm0]
    rw [← Int.add_mul, Rat.mkRat_mul_right hm0]
theorem numS_abs {m : Nat} (hm : m ≤ 1000000000000000) : ∀ {l : List Fr}, (∀ a ∈ l, validF a) → (numS m l).natAbs ≤ l.length * 4611686018427387904000000000000000
  | [], _ => by simp [numS]
  | a :: l, hv => by
    have ih := numS_abs hm (l := l) (fun b hb => hv b (by simp [hb]))
    obtain ⟨_, _, h3, h4, _⟩ := hv a (by simp)
    have h5 : (a.1 * ((m / a.2.natAbs : Nat) : Int)).natAbs ≤ 4611686018427387904 * 1000000000000000 := by
      rw [Int.natAbs_mul, Int.natAbs_natCast]
      exact Nat.mul_le_mul (by omega) (Nat.le_trans (Nat.div_le_self _ _) hm)
    simp only [numS, List.length_cons]
    have := Int.natAbs_add_le (a.1 * ((m / a.2.natAbs : Nat) : Int)) (numS m l)
    omega
theorem okL_app {l : List Fr} (h : okL l) : okL (l ++ l.map negS) := by
  obtain ⟨h1, h2⟩ := h
  refine ⟨fun a ha => ?_, ?_⟩
  · rcases List.mem_append.1 ha with ha | ha
    · exact h1 a ha
    · obtain ⟨b, hb, rfl⟩ := List.mem_map.1 ha
      exact valid_neg (h1 b hb)
  · have : lcmF 1 (l ++ l.map negS) = lcmF 1 l := by
      refine Nat.dvd_antisymm ?_ ?_
      · rw [lcmF_dvd]
        obtain ⟨q1, q2⟩ := (lcmF_dvd l 1 (lcmF 1 l)).1 (Nat.dvd_refl _)
        refine ⟨q1, fun x hx => ?_⟩
        rcases List.mem_append.1 hx with hx | hx
        · exact q2 x hx
        · obtain ⟨b, hb, rfl⟩ := List.mem_map.1 hx
          exact q2 b hb
      · rw [lcmF_dvd]
        obtain ⟨q1, q2⟩ := (lcmF_dvd (l ++ l.map negS) 1 (lcmF 1 (l ++ l.map negS))).1 (Nat.dvd_refl _)
        exact ⟨q1, fun x hx => q2 x (List.mem_append_left _ hx)⟩
    rw [this]
    exact h2
theorem sumR_neg : ∀ l : List Fr, sumR (l.map negS) = - sumR l
  | [] => by simp [sumR]
  | a :: l => by simp [sumR, sumR_neg l, R_neg, Rat.neg_add]
theorem sum_cancel {l : List Fr} (hl : l.length ≤ 10000) (h : okL l) : sumS (l ++ l.map negS) = ((0, 1), true) := by
  unfold sumS
  rw [if_pos ⟨by simp; omega, okL_app h⟩, sumR_app, sumR_neg, Rat.add_neg_cancel]
  rfl
theorem okL_tail {a : Fr} {l : List Fr} (h : okL (a :: l)) : okL l := by
  obtain ⟨h1, h2⟩ := h
  have hv : ∀ b ∈ l, validF b := fun b hb => h1 b (by simp [hb])
  refine ⟨hv, ?_⟩
  have hd : lcmF 1 l ∣ lcmF 1 (a :: l) := by
    rw [lcmF_dvd]
    obtain ⟨q1, q2⟩ := (lcmF_dvd (a :: l) 1 (lcmF 1 (a :: l))).1 (Nat.dvd_refl _)
    exact ⟨q1, fun x hx => q2 x (by simp [hx])⟩
  have := Nat.le_of_dvd (lcmF_pos h1 1 (by omega)) hd
  omega
theorem sum_tail {a : Fr} {l : List Fr} (hl : l.length ≤ 10000) (h : (sumS (a :: l)).2 = true) : sumS l = subS (sumS (a :: l)).1 a := by
  unfold sumS at h ⊢
  by_cases hc : (a :: l).length ≤ 20000 ∧ okL (a :: l)
  · rw [if_pos hc] at h
    rw [if_pos hc, if_pos ⟨by omega, okL_tail hc.2⟩]
    obtain ⟨v1, v2, _⟩ := toF_ok h
    rw [subS_val v1 (hc.2.1 a (by simp)), v2]
    congr 1
    simp only [sumR]
    rw [Rat.sub_eq_add_neg, Rat.add_comm (R a), Rat.add_assoc, Rat.add_neg_cancel, Rat.add_zero]
  · rw [if_neg hc] at h
    cases h
theorem sum_ones : ∀ n : Nat, n ≤ 20000 → sumS (List.replicate n (1, 1)) = (((n : Int), 1), true) := by
  intro n hn
  have hv : validF (1, 1) := ⟨by decide, by decide, by decide, by decide, by decide⟩
  have hR : R (1, 1) = 1 := rfl
  have hs : ∀ n : Nat, sumR (List.replicate n (1, 1)) = (n : Rat) := by
    intro n
    induction n with
    | zero => rfl
    | succ n ih => simp [List.replicate_succ, sumR, ih, hR, Rat.add_comm]
  have hL : lcmF 1 (List.replicate n (1, 1)) = 1 := by
    refine Nat.dvd_antisymm ?_ (Nat.one_dvd _)
    rw [lcmF_dvd]
    exact ⟨Nat.dvd_refl _, fun a ha => by rw [(List.mem_replicate.1 ha).2]; decide⟩
  unfold sumS
  rw [if_pos ⟨by simp; omega, fun a ha => by rw [(List.mem_replicate.1 ha).2]; exact hv, by rw [hL]; decide⟩, hs]
  unfold toF
  rw [if_pos ⟨by simp; omega, by simp⟩]
  simp
end Go.Proofs.YtddglikicokpeaaDoor
