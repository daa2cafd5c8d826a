/- The integral of the program is that of the reference: mathematics. -/
import Derived.Test.YtecmcggnpgjbiaaCtI
import Derived.Test.YtecmcggnpgjbiaaCtE
namespace Go.Proofs.Ytecmcggnpgjbiaa
open Go Go.RowKit
set_option linter.unusedVariables false
set_option linter.unusedSimpArgs false
set_option maxHeartbeats 2000000

theorem bl_irr : ∀ a : List UInt8, Op.bytesLess a a = false
  | [] => rfl
  | a :: xs => by
    have := bl_irr xs
    simp [Op.bytesLess, this, UInt8.lt_irrefl]
theorem bl_trans : ∀ a b c : List UInt8, Op.bytesLess a b = true → Op.bytesLess b c = true → Op.bytesLess a c = true
  | _, [], _, h, _ => by simp [Op.bytesLess] at h
  | _, _ :: _, [], _, h => by simp [Op.bytesLess] at h
  | [], _ :: _, _ :: _, _, _ => rfl
  | a :: xs, b :: ys, c :: zs, h1, h2 => by
    have ih := bl_trans xs ys zs
    simp only [Op.bytesLess, Bool.or_eq_true, Bool.and_eq_true, decide_eq_true_eq, beq_iff_eq] at *
    rcases h1 with h1 | ⟨rfl, h1⟩
    · rcases h2 with h2 | ⟨rfl, h2⟩
      · exact .inl (UInt8.lt_trans h1 h2)
      · exact .inl h1
    · rcases h2 with h2 | ⟨rfl, h2⟩
      · exact .inl h2
      · exact .inr ⟨rfl, ih h1 h2⟩
theorem bl_total : ∀ a b : List UInt8, ¬ a = b → Op.bytesLess b a = false → Op.bytesLess a b = true
  | [], [], h, _ => absurd rfl h
  | [], _ :: _, _, _ => rfl
  | _ :: _, [], _, h => by simp [Op.bytesLess] at h
  | a :: xs, b :: ys, h, h2 => by
    have ih := bl_total xs ys
    simp only [Op.bytesLess, Bool.or_eq_true, Bool.and_eq_true, decide_eq_true_eq, beq_iff_eq, Bool.or_eq_false_iff, Bool.and_eq_false_iff, decide_eq_false_iff_not] at *
    obtain ⟨g1, g2⟩ := h2
    by_cases c : a < b
    · exact .inl c
    · have e : a = b := UInt8.le_antisymm (UInt8.not_lt.1 g1) (UInt8.not_lt.1 c)
      subst e
      refine .inr ⟨rfl, ih (fun e => h (by rw [e])) ?_⟩
      rcases g2 with g2 | g2
      · simp at g2
      · exact g2
def LT (a b : Stp) : Prop := Op.bytesLess a.1 b.1 = true ∨ (a.1 = b.1 ∧ a.2.1 < b.2.1)
theorem LT_trans {a b c : Stp} (h1 : LT a b) (h2 : LT b c) : LT a c := by
  unfold LT at *
  rcases h1 with h1 | ⟨e1, h1⟩
  · rcases h2 with h2 | ⟨e2, h2⟩
    · exact .inl (bl_trans _ _ _ h1 h2)
    · exact .inl (by rw [← e2]; exact h1)
  · rcases h2 with h2 | ⟨e2, h2⟩
    · exact .inl (by rw [e1]; exact h2)
    · exact .inr ⟨e1.trans e2, by omega⟩
theorem LT_of {p s : Stp} (h : ordB p s = false) : LT p s := by
  have h0 := ordB_ref p s
  rw [h] at h0
  unfold LT
  obtain ⟨a1, a2, a3⟩ := p
  obtain ⟨b1, b2, b3⟩ := s
  simp only at h0 ⊢
  have h1 := cb_lt b1 a1
  have h2 := cb_lt a1 b1
  have h3 := cb_eq a1 b1
  simp only [Bool.or_eq_false_iff, Bool.and_eq_false_iff, decide_eq_false_iff_not] at h0
  obtain ⟨g1, g2⟩ := h0
  by_cases c : a1 = b1
  · subst c
    right
    refine ⟨rfl, ?_⟩
    rcases g2 with g2 | g2
    · simp at g2
    · omega
  · left
    -- neither less nor equal
    exact bl_total a1 b1 c g1
/-- a valid list's steps: what is known of each, and their order -/
theorem chk_ok {l : List Stp} (h : chkC l = 0) : (∀ a ∈ l, 0 ≤ a.2.1 ∧ a.2.1 ≤ 1000000000000 ∧ -1000000000000000 ≤ a.2.2 ∧ a.2.2 ≤ 1000000000000000) ∧ l.Pairwise LT := by
  have hz := (firstF_zero l 0).1 h
  have one : ∀ (i : Nat) (a : Stp), l[i]? = some a → (0 ≤ a.2.1 ∧ a.2.1 ≤ 1000000000000 ∧ -1000000000000000 ≤ a.2.2 ∧ a.2.2 ≤ 1000000000000000) ∧ ∀ j p, i = j + 1 → l[j]? = some p → ordB p a = false := by
    intro i a hi
    have := hz i a hi
    rw [Nat.zero_add] at this
    unfold errC at this
    split at this
    · split at this
      · rename_i hc
        refine ⟨hc, fun j p hj hp => ?_⟩
        subst hj
        simp only [Nat.add_sub_cancel] at this
        rw [hp] at this
        simp only at this
        cases ho : ordB p a with
        | false => rfl
        | true => rw [ho] at this; simp at this
      · cases this
    · cases this
  refine ⟨fun a ha => ?_, ?_⟩
  · obtain ⟨i, hi⟩ := List.mem_iff_getElem?.1 ha
    exact (one i a hi).1
  · rw [List.pairwise_iff_getElem]
    have step : ∀ (d i : Nat) (h : i + d + 1 < l.length), LT (l[i]'(by omega)) (l[i + d + 1]) := by
      intro d
      induction d with
      | zero =>
        intro i hh
        exact LT_of ((one (i + 1) _ (List.getElem?_eq_getElem hh)).2 i _ rfl (List.getElem?_eq_getElem (by omega)))
      | succ d ih =>
        intro i hh
        refine LT_trans (ih i (by omega)) ?_
        exact LT_of ((one (i + (d + 1) + 1) _ (List.getElem?_eq_getElem hh)).2 (i + d + 1) _ (by omega) (List.getElem?_eq_getElem (by omega)))
    intro i j hi hj hij
    have := step (j - i - 1) i (by omega)
    have e : i + (j - i - 1) + 1 = j := by omega
    simpa only [e] using this
/-- until when a step holds, by those behind it -/
def untL (a : Stp) : List Stp → Int
  | b :: _ => if b.1 = a.1 then b.2.1 else 1000000000000
  | [] => 1000000000000
theorem unt_drop (l : List Stp) (i : Nat) (a : Stp) : unt l i a = untL a (l.drop (i + 1)) := by
  unfold unt
  cases h : l.drop (i + 1) with
  | nil =>
    rw [List.getElem?_eq_none (by have := List.drop_eq_nil_iff.1 h; omega)]
    rfl
  | cons b r =>
    have : l[i + 1]? = some b := by
      have h2 : (l.drop (i + 1))[0]? = some b := by rw [h]; rfl
      rw [List.getElem?_drop] at h2
      simpa using h2
    rw [this]
    rfl
/-- the first time of a name, or the end of time -/
def nx (name : List UInt8) : List Stp → Int
  | [] => 1000000000000
  | a :: r => if a.1 = name then a.2.1 else nx name r
def seg (name : List UInt8) (F T : Int) (a : Stp) (r : List Stp) : Int := if a.1 = name ∧ max a.2.1 F < min (untL a r) T then a.2.2 * (min (untL a r) T - max a.2.1 F) else 0
def refL (name : List UInt8) (F T : Int) : List Stp → Int
  | [] => 0
  | a :: r => seg name F T a r + refL name F T r
/-- what order gives: times of a name grow, and those of one name are next to each other -/
def Good (name : List UInt8) : List Stp → Prop
  | [] => True
  | a :: r => (a.1 = name → (∀ c ∈ r, c.1 = name → a.2.1 < c.2.1) ∧ untL a r = nx name r) ∧ Good name r
theorem nx_none {name : List UInt8} : ∀ {r : List Stp}, (∀ c ∈ r, ¬ c.1 = name) → nx name r = 1000000000000
  | [], _ => rfl
  | a :: r, h => by
    rw [nx, if_neg (h a List.mem_cons_self)]
    exact nx_none fun c hc => h c (List.mem_cons_of_mem _ hc)
theorem nx_lt {name : List UInt8} {t : Int} (ht : t ≤ 1000000000000) : ∀ {r : List Stp}, (∀ c ∈ r, c.1 = name → t < c.2.1) → t ≤ nx name r
  | [], _ => ht
  | a :: r, h => by
    rw [nx]
    split
    · rename_i hc; have := h a List.mem_cons_self hc; omega
    · exact nx_lt ht fun c hc => h c (List.mem_cons_of_mem _ hc)
theorem nx_lt2 {name : List UInt8} {t : Int} (ht : t < 1000000000000) : ∀ {r : List Stp}, (∀ c ∈ r, c.1 = name → t < c.2.1) → t < nx name r
  | [], _ => ht
  | a :: r, h => by
    rw [nx]
    split
    · rename_i hc; exact h a List.mem_cons_self hc
    · exact nx_lt2 ht fun c hc => h c (List.mem_cons_of_mem _ hc)
theorem good_of (name : List UInt8) : ∀ {l : List Stp}, l.Pairwise LT → Good name l
  | [], _ => trivial
  | a :: r, h => by
    obtain ⟨h1, h2⟩ := List.pairwise_cons.1 h
    refine ⟨fun hn => ⟨fun c hc hcn => ?_, ?_⟩, good_of name h2⟩
    · have := h1 c hc
      unfold LT at this
      rw [hn, hcn, bl_irr] at this
      rcases this with h | h
      · cases h
      · exact h.2
    · cases r with
      | nil => rfl
      | cons b r =>
        by_cases hb : b.1 = name
        · rw [untL, nx, if_pos (hb.trans hn.symm), if_pos hb]
        · have hab := h1 b List.mem_cons_self
          have hlt : Op.bytesLess name b.1 = true := by
            unfold LT at hab
            rw [hn] at hab
            rcases hab with h | h
            · exact h
            · exact absurd h.1.symm hb
          rw [untL, if_neg (fun e => hb (e.trans hn))]
          refine (nx_none fun c hc hcn => ?_).symm
          rcases List.mem_cons.1 hc with rfl | hc
          · exact hb hcn
          · have hbc := (List.pairwise_cons.1 h2).1 c hc
            have : Op.bytesLess name c.1 = true := by
              unfold LT at hbc
              rcases hbc with h | h
              · exact bl_trans _ _ _ hlt h
              · rw [← h.1]; exact hlt
            rw [hcn, bl_irr] at this
            cases this
/-- a step of the program's sum: the sum, the value, the time from which it holds -/
def stP (name : List UInt8) (T : Int) (u : Int × Int × Int) (a : Stp) : Int × Int × Int :=
  if a.1 = name ∧ a.2.1 < T then (if u.2.2 < a.2.1 then (u.1 + u.2.1 * (a.2.1 - u.2.2), a.2.2, a.2.1) else (u.1, a.2.2, u.2.2)) else u
def finP (T : Int) (u : Int × Int × Int) : Int := u.1 + u.2.1 * (T - u.2.2)
theorem prg_ref (name : List UInt8) (F T : Int) (hT : T ≤ 1000000000000) : ∀ (r : List Stp) (Z v f : Int), Good name r → F ≤ f → f ≤ T → (f = F ∨ ∀ c ∈ r, c.1 = name → f < c.2.1) →
    finP T (r.foldl (stP name T) (Z, v, f)) = Z + v * (max (min (nx name r) T) f - f) + refL name F T r
  | [], Z, v, f, _, hf, hfT, _ => by
    have e : max (min (nx name []) T) f - f = T - f := by unfold nx; omega
    rw [e]
    simp [finP, refL]
  | a :: r, Z, v, f, hg, hf, hfT, hp => by
    obtain ⟨g1, g2⟩ := hg
    rw [List.foldl_cons, refL]
    by_cases hn : a.1 = name
    · obtain ⟨q1, q2⟩ := g1 hn
      rw [nx, if_pos hn]
      by_cases hT2 : a.2.1 < T
      · by_cases hlt : f < a.2.1
        · have e1 : stP name T (Z, v, f) a = (Z + v * (a.2.1 - f), a.2.2, a.2.1) := by unfold stP; rw [if_pos ⟨hn, hT2⟩, if_pos hlt]
          rw [e1, prg_ref name F T hT r _ _ _ g2 (by omega) (by omega) (.inr q1)]
          have hu : a.2.1 < nx name r := nx_lt2 (by omega) q1
          have e2 : seg name F T a r = a.2.2 * (max (min (nx name r) T) a.2.1 - a.2.1) := by
            unfold seg
            rw [q2, if_pos ⟨hn, by omega⟩]
            congr 1
            omega
          have e3 : max (min a.2.1 T) f - f = a.2.1 - f := by omega
          rw [e2, e3]
          omega
        · have hF : f = F := by
            rcases hp with h | h
            · exact h
            · exact absurd (h a List.mem_cons_self hn) hlt
          have e1 : stP name T (Z, v, f) a = (Z, a.2.2, f) := by unfold stP; rw [if_pos ⟨hn, hT2⟩, if_neg hlt]
          rw [e1, prg_ref name F T hT r _ _ _ g2 hf hfT (.inl hF)]
          have e2 : seg name F T a r = a.2.2 * (max (min (nx name r) T) f - f) := by
            unfold seg
            rw [q2]
            split
            · congr 1; omega
            · rename_i hc
              have : ¬ max a.2.1 F < min (nx name r) T := fun h => hc ⟨hn, h⟩
              have e : max (min (nx name r) T) f - f = 0 := by omega
              rw [e, Int.mul_zero]
          have e3 : max (min a.2.1 T) f - f = 0 := by omega
          rw [e2, e3]
          omega
      · have e1 : stP name T (Z, v, f) a = (Z, v, f) := by unfold stP; rw [if_neg (fun h => hT2 h.2)]
        have hp' : f = F ∨ ∀ c ∈ r, c.1 = name → f < c.2.1 := by
          rcases hp with h | h
          · exact .inl h
          · exact .inr fun c hc => h c (List.mem_cons_of_mem _ hc)
        rw [e1, prg_ref name F T hT r _ _ _ g2 hf hfT hp']
        have hu : T ≤ nx name r := nx_lt hT fun c hc hcn => by have := q1 c hc hcn; omega
        have e2 : seg name F T a r = 0 := by
          unfold seg
          rw [if_neg (fun h => by have := h.2; omega)]
        have e3 : max (min a.2.1 T) f - f = max (min (nx name r) T) f - f := by omega
        rw [e2, e3]
        omega
    · have e1 : stP name T (Z, v, f) a = (Z, v, f) := by unfold stP; rw [if_neg (fun h => hn h.1)]
      have hp' : f = F ∨ ∀ c ∈ r, c.1 = name → f < c.2.1 := by
        rcases hp with h | h
        · exact .inl h
        · exact .inr fun c hc => h c (List.mem_cons_of_mem _ hc)
      rw [e1, prg_ref name F T hT r _ _ _ g2 hf hfT hp', nx, if_neg hn]
      have e2 : seg name F T a r = 0 := by unfold seg; rw [if_neg (fun h => hn h.1)]
      rw [e2]
      omega
/-- the program's integral -/
def itg (name : List UInt8) (F T : Int) (l : List Stp) : Int := finP T (l.foldl (stP name T) (0, 0, F))
theorem itg_ref {name : List UInt8} {F T : Int} {l : List Stp} (hT : T ≤ 1000000000000) (hF : F ≤ T) (hg : Good name l) : itg name F T l = refL name F T l := by
  unfold itg
  rw [prg_ref name F T hT l 0 0 F hg (Int.le_refl _) hF (.inl rfl)]
  omega
/-- integrals over adjacent spans add up -/
theorem ref_add (name : List UInt8) (F M T : Int) (h1 : F ≤ M) (h2 : M ≤ T) : ∀ l : List Stp, refL name F M l + refL name M T l = refL name F T l
  | [] => rfl
  | a :: r => by
    have ih := ref_add name F M T h1 h2 r
    rw [refL, refL, refL, ← ih]
    have : seg name F M a r + seg name M T a r = seg name F T a r := by
      unfold seg
      generalize untL a r = u
      by_cases hn : a.1 = name
      · simp only [hn, true_and]
        by_cases c1 : max a.2.1 F < min u M
        · by_cases c2 : max a.2.1 M < min u T
          · rw [if_pos c1, if_pos c2, if_pos (by omega), ← Int.mul_add]
            congr 1
            omega
          · rw [if_pos c1, if_neg c2, if_pos (by omega), Int.add_zero]
            congr 1
            omega
        · by_cases c2 : max a.2.1 M < min u T
          · rw [if_neg c1, if_pos c2, if_pos (by omega), Int.zero_add]
            congr 1
            omega
          · rw [if_neg c1, if_neg c2, if_neg (by omega)]
            rfl
      · simp [hn]
    omega
/-- the integral over one time is the value at it -/
theorem itg_one (name : List UInt8) (m : Int) (l : List Stp) : itg name m (m + 1) l = (atF name m l).1 := by
  have key : ∀ (r : List Stp) (v : Int) (ok : Bool), r.foldl (stP name (m + 1)) (0, v, m) = (0, (r.foldl (atS name m) (v, ok)).1, m) := by
    intro r
    induction r with
    | nil => intro v ok; rfl
    | cons a r ih =>
      intro v ok
      rw [List.foldl_cons, List.foldl_cons]
      by_cases c : a.1 = name ∧ a.2.1 ≤ m
      · have e1 : stP name (m + 1) (0, v, m) a = (0, a.2.2, m) := by unfold stP; rw [if_pos ⟨c.1, by omega⟩, if_neg (by simp only; omega)]
        have e2 : atS name m (v, ok) a = (a.2.2, true) := by unfold atS; rw [if_pos c]
        rw [e1, e2]
        exact ih _ _
      · have e1 : stP name (m + 1) (0, v, m) a = (0, v, m) := by unfold stP; rw [if_neg (fun h => c ⟨h.1, by omega⟩)]
        have e2 : atS name m (v, ok) a = (v, ok) := by unfold atS; rw [if_neg c]
        rw [e1, e2]
        exact ih _ _
  unfold itg finP atF
  rw [key l 0 false]
  simp only
  have : m + 1 - m = 1 := by omega
  rw [this, Int.mul_one, Int.zero_add]
end Go.Proofs.Ytecmcggnpgjbiaa
