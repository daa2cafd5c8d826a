/- spans: lengths count times; the reference's way of combining (no program). -/
import Derived.Test.YtildbjepbnjbfaaSpA
namespace Go.Proofs.Ytildbjepbnjbfaa
set_option linter.unusedVariables false
set_option linter.unusedSimpArgs false
open Classical

noncomputable def cnt (P : Int → Prop) : Nat → Nat
  | 0 => 0
  | n + 1 => cnt P n + if P n then 1 else 0
theorem cnt_congr {P Q : Int → Prop} : ∀ n : Nat, (∀ t : Nat, t < n → (P t ↔ Q t)) → cnt P n = cnt Q n
  | 0, _ => rfl
  | n + 1, h => by
    unfold cnt
    rw [cnt_congr n fun t ht => h t (by omega)]
    have e := propext (h n (by omega))
    rw [e]
theorem cnt_add (P Q : Int → Prop) : ∀ n, cnt (fun t => P t ∨ Q t) n + cnt (fun t => P t ∧ Q t) n = cnt P n + cnt Q n
  | 0 => rfl
  | n + 1 => by
    have ih := cnt_add P Q n
    simp only [cnt]
    by_cases h1 : P n <;> by_cases h2 : Q n <;> simp [h1, h2] <;> omega
theorem cnt_none {P : Int → Prop} : ∀ n : Nat, (∀ t : Nat, t < n → ¬ P t) → cnt P n = 0
  | 0, _ => rfl
  | n + 1, h => by
    unfold cnt
    rw [cnt_none n fun t ht => h t (by omega)]
    simp [h n (by omega)]
theorem cnt_iv (a b : Int) (h0 : 0 ≤ a) (h1 : a ≤ b) : ∀ n : Nat, (cnt (fun t => a ≤ t ∧ t < b) n : Int) = if (n : Int) ≤ a then 0 else if (n : Int) ≤ b then n - a else b - a
  | 0 => by simp only [cnt]; split <;> simp_all <;> omega
  | n + 1 => by
    have ih := cnt_iv a b h0 h1 n
    simp only [cnt]
    rw [Int.natCast_add, ih]
    split <;> split <;> (try split) <;> (try split) <;> simp_all <;> omega

def lenF : List Sp → Int
  | [] => 0
  | s :: l => s.2 - s.1 + lenF l
theorem lenF_cnt : ∀ {l : List Sp}, Nrm l → lenF l = cnt (fun t => inS t l) MT.toNat
  | [], _ => by
    rw [cnt_none _ fun t _ => inS_nil]
    rfl
  | s :: l, h => by
    obtain ⟨vs, ls, hl⟩ := nrm_cons.1 h
    have e1 : cnt (fun t => inS t (s :: l)) MT.toNat = cnt (fun t => (s.1 ≤ t ∧ t < s.2) ∨ inS t l) MT.toNat := cnt_congr _ fun t _ => inS_cons
    have e2 := cnt_add (fun t => s.1 ≤ t ∧ t < s.2) (fun t => inS t l) MT.toNat
    have e3 : cnt (fun t => (s.1 ≤ t ∧ t < s.2) ∧ inS t l) MT.toNat = 0 := cnt_none _ fun t _ => by
      rintro ⟨h1, u, hu, h2, h3⟩
      have := ls u hu
      omega
    have e4 := cnt_iv s.1 s.2 vs.1 (by have := vs.2.1; omega) MT.toNat
    have e5 : ((MT.toNat : Nat) : Int) = MT := by unfold MT; rfl
    rw [e5, if_neg (by unfold vl at vs; omega)] at e4
    have e6 : (if MT ≤ s.2 then MT - s.1 else s.2 - s.1) = s.2 - s.1 := by unfold vl at vs; split <;> omega
    rw [e6] at e4
    unfold lenF
    rw [lenF_cnt hl, e1]
    omega
/-- lengths of two sets together -/
theorem lenF_two {a b u m : List Sp} (ha : Nrm a) (hb : Nrm b) (hu : Nrm u) (hm : Nrm m) (h1 : ∀ t, inS t u ↔ inS t a ∨ inS t b) (h2 : ∀ t, inS t m ↔ inS t a ∧ inS t b) : lenF u + lenF m = lenF a + lenF b := by
  rw [lenF_cnt ha, lenF_cnt hb, lenF_cnt hu, lenF_cnt hm]
  have e := cnt_add (fun t => inS t a) (fun t => inS t b) MT.toNat
  rw [cnt_congr (P := fun t => inS t u) (Q := fun t => inS t a ∨ inS t b) _ fun t _ => h1 t, cnt_congr (P := fun t => inS t m) (Q := fun t => inS t a ∧ inS t b) _ fun t _ => h2 t]
  omega
theorem lenF_bound : ∀ {l : List Sp}, (∀ s ∈ l, vl s) → 0 ≤ lenF l ∧ lenF l ≤ l.length * MT
  | [], _ => by simp [lenF]
  | s :: l, h => by
    have ih := lenF_bound (l := l) fun u hu => h u (by simp [hu])
    have hs := h s (by simp)
    have e : lenF (s :: l) = s.2 - s.1 + lenF l := rfl
    rw [e]
    generalize lenF l = L at *
    unfold vl MT at *
    simp only [List.length_cons, Int.natCast_add]
    omega

/-! the reference: the ends, in order -/
def insE (n : Int) : List Int → List Int
  | [] => [n]
  | x :: l => if n ≤ x then (if x = n then x :: l else n :: x :: l) else x :: insE n l
theorem insE_mem {n x : Int} : ∀ {l : List Int}, x ∈ insE n l ↔ x = n ∨ x ∈ l
  | [] => by simp [insE]
  | y :: l => by
    unfold insE
    split
    · split
      · rename_i h1 h2
        subst h2
        simp
      · simp
    · simp only [List.mem_cons, insE_mem]
      constructor
      · rintro (h | h | h) <;> simp [h]
      · rintro (h | h | h) <;> simp [h]
theorem insE_sorted {n : Int} : ∀ {l : List Int}, l.Pairwise (· < ·) → (insE n l).Pairwise (· < ·)
  | [], _ => by simp [insE]
  | y :: l, h => by
    obtain ⟨h1, h2⟩ := List.pairwise_cons.1 h
    unfold insE
    split
    · split
      · exact h
      · rename_i h3 h4
        refine List.pairwise_cons.2 ⟨fun a ha => ?_, h⟩
        rcases List.mem_cons.1 ha with rfl | ha
        · omega
        · have := h1 a ha; omega
    · rename_i h3
      refine List.pairwise_cons.2 ⟨fun a ha => ?_, insE_sorted h2⟩
      rcases insE_mem.1 ha with rfl | ha
      · omega
      · exact h1 a ha
def endsF : List Int → List Sp → List Int
  | out, [] => out
  | out, s :: l => endsF (if vl s then insE s.2 (insE s.1 out) else out) l
theorem endsF_spec : ∀ (l : List Sp) (out : List Int), out.Pairwise (· < ·) → (endsF out l).Pairwise (· < ·) ∧ ∀ x, x ∈ endsF out l ↔ x ∈ out ∨ ∃ s ∈ l, vl s ∧ (x = s.1 ∨ x = s.2)
  | [], out, h => by unfold endsF; exact ⟨h, fun x => by simp⟩
  | s :: l, out, h => by
    unfold endsF
    split
    · rename_i hv
      obtain ⟨a, b⟩ := endsF_spec l _ (insE_sorted (n := s.2) (insE_sorted (n := s.1) h))
      refine ⟨a, fun x => ?_⟩
      rw [b, insE_mem, insE_mem]
      simp only [List.mem_cons, exists_eq_or_imp, hv, true_and]
      constructor
      · rintro ((h | h | h) | h) <;> simp [h]
      · rintro (h | (h | h) | h) <;> simp [h]
    · rename_i hv
      obtain ⟨a, b⟩ := endsF_spec l out h
      refine ⟨a, fun x => ?_⟩
      rw [b]
      simp [hv]

/-- the loop over the ends: what has been built, the last first -/
noncomputable def combF (H : Int → Prop) : List Sp → List Int → List Sp
  | r, [] => r.reverse
  | r, [_] => r.reverse
  | r, c :: d :: l => combF H (if H c then (match r with
      | x :: r' => if x.2 = c then (x.1, d) :: r' else (c, d) :: x :: r'
      | [] => [(c, d)]) else r) (d :: l)
theorem combF_spec (H : Int → Prop) : ∀ (l : List Int) (r : List Sp), RN r → l.Pairwise (· < ·) → (∀ x ∈ l, 0 ≤ x ∧ x ≤ MT) → (∀ x ∈ r, ∀ c ∈ l, x.2 ≤ c) → (∀ i (c d t : Int), l[i]? = some c → l[i + 1]? = some d → c ≤ t → t < d → (H t ↔ H c)) →
    Nrm (combF H r l) ∧ ∀ t, inS t (combF H r l) ↔ inS t r ∨ (H t ∧ ∃ c ∈ l, c ≤ t ∧ ∃ d ∈ l, t < d)
  | [], r, hr, _, _, _, _ => by
    unfold combF
    exact ⟨rn_rev hr, fun t => by rw [inS_rev]; simp⟩
  | [c], r, hr, _, _, _, _ => by
    unfold combF
    refine ⟨rn_rev hr, fun t => ?_⟩
    rw [inS_rev]
    constructor
    · exact .inl
    · rintro (h | ⟨_, c', h1, h2, d, h3, h4⟩)
      · exact h
      · simp at h1 h3
        omega
  | c :: d :: l, r, hr, hp, hb, hle, hH => by
    obtain ⟨p1, p2⟩ := List.pairwise_cons.1 hp
    obtain ⟨p3, _⟩ := List.pairwise_cons.1 p2
    have hcd : c < d := p1 d (by simp)
    have bc := hb c (by simp)
    have bd := hb d (by simp)
    have hH' : ∀ i (c' d' t : Int), (d :: l)[i]? = some c' → (d :: l)[i + 1]? = some d' → c' ≤ t → t < d' → (H t ↔ H c') := fun i c' d' t h1 h2 h3 h4 => hH (i + 1) c' d' t (by simpa using h1) (by simpa using h2) h3 h4
    have iv : ∀ t, c ≤ t → t < d → (H t ↔ H c) := fun t h1 h2 => hH 0 c d t rfl rfl h1 h2
    have hd : ∀ x ∈ d :: l, d ≤ x := fun x hx => by
      rcases List.mem_cons.1 hx with rfl | hx
      · omega
      · have := p3 x hx; omega
    -- which times are between the ends
    have mid : ∀ t, (∃ a ∈ c :: d :: l, a ≤ t ∧ ∃ b ∈ c :: d :: l, t < b) ↔ (c ≤ t ∧ t < d) ∨ (∃ a ∈ d :: l, a ≤ t ∧ ∃ b ∈ d :: l, t < b) := by
      intro t
      constructor
      · rintro ⟨a, ha, h1, b, hbm, h2⟩
        rcases Int.lt_or_le t d with h | h
        · left
          refine ⟨?_, h⟩
          rcases List.mem_cons.1 ha with rfl | ha
          · exact h1
          · have := hd a ha; omega
        · right
          refine ⟨d, by simp, h, b, ?_, h2⟩
          rcases List.mem_cons.1 hbm with rfl | hbm
          · omega
          · exact hbm
      · rintro (⟨h1, h2⟩ | ⟨a, ha, h1, b, hbm, h2⟩)
        · exact ⟨c, by simp, h1, d, by simp, h2⟩
        · exact ⟨a, List.mem_cons_of_mem _ ha, h1, b, List.mem_cons_of_mem _ hbm, h2⟩
    have fin : ∀ r', RN r' → (∀ x ∈ r', ∀ e ∈ d :: l, x.2 ≤ e) → (∀ t, inS t r' ↔ inS t r ∨ (H t ∧ c ≤ t ∧ t < d)) → Nrm (combF H r' (d :: l)) ∧ ∀ t, inS t (combF H r' (d :: l)) ↔ inS t r ∨ (H t ∧ ∃ a ∈ c :: d :: l, a ≤ t ∧ ∃ b ∈ c :: d :: l, t < b) := by
      intro r' h1 h2 h3
      obtain ⟨q1, q2⟩ := combF_spec H (d :: l) r' h1 p2 (fun x hx => hb x (List.mem_cons_of_mem _ hx)) h2 hH'
      refine ⟨q1, fun t => ?_⟩
      rw [q2, h3, mid t]
      constructor
      · rintro ((h | ⟨h, h'⟩) | ⟨h, h'⟩)
        · exact .inl h
        · exact .inr ⟨h, .inl h'⟩
        · exact .inr ⟨h, .inr h'⟩
      · rintro (h | ⟨h, h' | h'⟩)
        · exact .inl (.inl h)
        · exact .inl (.inr ⟨h, h'⟩)
        · exact .inr ⟨h, h'⟩
    unfold combF
    split
    · rename_i hc
      have hin : ∀ t, (H t ∧ c ≤ t ∧ t < d) ↔ c ≤ t ∧ t < d := fun t => ⟨fun h => h.2, fun h => ⟨(iv t h.1 h.2).2 hc, h⟩⟩
      cases r with
      | nil =>
        simp only
        refine fin _ (rn_cons.2 ⟨⟨bc.1, hcd, bd.2⟩, by simp, hr⟩) (fun x hx e he => ?_) (fun t => ?_)
        · simp at hx; subst hx; exact hd e he
        · rw [hin, inS_cons]; simp [inS_nil]
      | cons x r =>
        obtain ⟨vx, lx, hr'⟩ := rn_cons.1 hr
        have hxc := hle x (by simp) c (by simp)
        simp only
        split
        · rename_i hx2
          refine fin _ (rn_cons.2 ⟨⟨vx.1, by have := vx.2.1; simp only; omega, bd.2⟩, lx, hr'⟩) (fun y hy e he => ?_) (fun t => ?_)
          · rcases List.mem_cons.1 hy with rfl | hy
            · exact hd e he
            · exact hle y (by simp [hy]) e (List.mem_cons_of_mem _ he)
          · rw [hin, inS_cons, inS_cons]
            have := vx.2.1
            simp only
            constructor
            · rintro (h | h)
              · rcases Int.lt_or_le t x.2 with h' | h'
                · exact .inl (.inl ⟨h.1, h'⟩)
                · exact .inr ⟨by omega, h.2⟩
              · exact .inl (.inr h)
            · rintro ((h | h) | h)
              · exact .inl ⟨h.1, by omega⟩
              · exact .inr h
              · exact .inl ⟨by omega, h.2⟩
        · rename_i hx2
          refine fin _ (rn_cons.2 ⟨⟨bc.1, hcd, bd.2⟩, fun u hu => ?_, hr⟩) (fun y hy e he => ?_) (fun t => ?_)
          · simp only
            rcases List.mem_cons.1 hu with rfl | hu
            · omega
            · have := lx u hu; have := vx.2.1; omega
          · rcases List.mem_cons.1 hy with rfl | hy
            · exact hd e he
            · exact hle y hy e (List.mem_cons_of_mem _ he)
          · rw [hin, inS_cons (s := (c, d))]
            simp only
            constructor
            · rintro (h | h)
              · exact .inr h
              · exact .inl h
            · rintro (h | h)
              · exact .inr h
              · exact .inl h
    · rename_i hc
      refine fin r hr (fun x hx e he => hle x hx e (List.mem_cons_of_mem _ he)) (fun t => ?_)
      constructor
      · exact .inl
      · rintro (h | ⟨h1, h2, h3⟩)
        · exact h
        · exact absurd ((iv t h2 h3).1 h1) hc
end Go.Proofs.Ytildbjepbnjbfaa
