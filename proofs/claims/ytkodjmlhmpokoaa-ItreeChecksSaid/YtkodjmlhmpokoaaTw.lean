/- A region that draws its order, whose last operations wait for all the others: the first ones in one walk, the last ones in theirs. -/
import Derived.Test.YtkodjmlhmpokoaaOr
import Derived.Deep.QuietTactic
namespace Go
set_option linter.unusedSimpArgs false
set_option linter.unusedVariables false
variable {P : Program} {md : Region.Mode} {C : World → Prop}

theorem wpAny_more {ops : Array Oper} {Q : Exit → Act → World → Prop} : ∀ (n : Nat) (listed : Array Bool) (a : Act) (w : World), wpAny P md ops Q n listed a w → wpAny P md ops Q (n + 1) listed a w
  | 0, listed, a, w, h => ⟨fun _ => h.2, fun i hi => by rw [h.1] at hi; cases hi⟩
  | n + 1, listed, a, w, h => ⟨h.1, fun i hi => wpOp_mono (fun a w hk => wpAny_more n _ a w hk) (h.2 i hi)⟩
theorem wpAny_add {ops : Array Oper} {Q : Exit → Act → World → Prop} (n : Nat) {listed : Array Bool} {a : Act} {w : World} (h : wpAny P md ops Q n listed a w) : ∀ k, wpAny P md ops Q (n + k) listed a w
  | 0 => h
  | k + 1 => wpAny_more (n + k) listed a w (wpAny_add n h k)
/-- the first p operations are listed alike -/
structure Two (p : Nat) (lp listed : Array Bool) : Prop where
  lo : ∀ j, j < p → ∀ d, listed.getD j d = lp.getD j d
  hi : ∀ j, p ≤ j → listed.getD j false = false
  up : ∀ j, p ≤ j → j < listed.size → listed.getD j true = false
  sz : lp.size = p
  le : p ≤ listed.size
def Down (md : Region.Mode) (pre : Array Oper) (lp : Array Bool) : Prop := ∀ (j : Nat) (o : Oper), pre[j]? = some o → lp.getD j false = true → ∀ e ∈ o.after, Region.binds md e = true → lp.getD e.on false = true
theorem getD_tf {l : Array Bool} {j : Nat} (h : j < l.size) : l.getD j true = l.getD j false := by
  simp [Array.getD, h]
theorem all_of_ready {pre : Array Oper} {lp : Array Bool} (hsz : lp.size = pre.size) (hlow : ∀ (j : Nat) (o : Oper), pre[j]? = some o → ∀ e ∈ o.after, Region.binds md e = true → e.on < j) (h : Region.ready md pre lp = []) : ∀ j, j < pre.size → lp.getD j false = true := by
  intro j
  induction j using Nat.strongRecOn with
  | ind j ih =>
    intro hj
    cases hc : lp.getD j false with
    | true => rfl
    | false =>
      exfalso
      obtain ⟨o, ho⟩ : ∃ o, pre[j]? = some o := ⟨_, Array.getElem?_eq_getElem hj⟩
      have : j ∈ Region.ready md pre lp := mem_ready.2 ⟨by rw [getD_tf (by omega)]; exact hc, o, ho, fun e he hb => ih e.on (hlow j o ho e he hb) (by have := hlow j o ho e he hb; omega)⟩
      rw [h] at this
      cases this
def LowB (md : Region.Mode) (pre : Array Oper) : Prop := ∀ (j : Nat) (o : Oper), pre[j]? = some o → ∀ e ∈ o.after, Region.binds md e = true → e.on < j
def SufB (md : Region.Mode) (pre ops : Array Oper) (p : Nat) : Prop := ∀ (i : Nat) (o : Oper), p ≤ i → ops[i]? = some o → (∃ e ∈ o.after, Region.binds md e = true ∧ p ≤ e.on) ∨ ∀ j, j < p → (∃ e ∈ o.after, Region.binds md e = true ∧ e.on = j) ∨ ∃ (j' : Nat) (oj : Oper), j < j' ∧ j' < p ∧ pre[j']? = some oj ∧ ∃ e ∈ oj.after, Region.binds md e = true ∧ e.on = j
theorem all_of_suf {pre ops : Array Oper} {p : Nat} {lp listed : Array Bool} (hsuf : SufB md pre ops p) (hR : Two p lp listed) (hD : Down md pre lp) {i : Nat} (hip : p ≤ i) (hi : i ∈ Region.ready md ops listed) : ∀ j, j < p → lp.getD j false = true := by
  obtain ⟨_, o, ho, hall⟩ := mem_ready.1 hi
  rcases hsuf i o hip ho with ⟨e, he, hb, hpe⟩ | h
  · have h1 := hall e he hb
    rw [hR.hi e.on hpe] at h1
    cases h1
  · intro j hj
    have key : ∀ n j, p - j = n → j < p → lp.getD j false = true := by
      intro n
      induction n using Nat.strongRecOn with
      | ind n ih =>
        intro j hn hj
        rcases h j hj with ⟨e, he, hb, rfl⟩ | ⟨j', oj, h1, h2, h3, e, he, hb, rfl⟩
        · have := hall e he hb
          rwa [hR.lo _ hj] at this
        · exact hD j' oj h3 (ih (p - j') (by omega) j' rfl h2) e he hb
    exact key _ j rfl hj
/-- the two walks -/
theorem wpAny_two {pre ops : Array Oper} {p s : Nat} {K : Act → Prop} {Q : Exit → Act → World → Prop} (hp : pre.size = p) (hpre : ∀ j, j < p → ops[j]? = pre[j]?) (hg : ∀ (j : Nat) (o : Oper), pre[j]? = some o → o.guard = none) (hlow : LowB md pre) (hsuf : SufB md pre ops p)
    (hK : ∀ (listed : Array Bool) a w, (∀ j, j < p → listed.getD j false = true) → (∀ j, p ≤ j → listed.getD j false = false) → (∀ j, p ≤ j → j < listed.size → listed.getD j true = false) → listed.size = ops.size → C w → K a → wpAny P md ops Q s listed a w) :
    ∀ (fuel : Nat) (lp listed : Array Bool) (a : Act) (w : World), Two p lp listed → listed.size = ops.size → Down md pre lp → C w → wpAnyQ P md pre C K fuel lp a → wpAny P md ops Q (fuel + s) listed a w := by
  have hall : ∀ (lp listed : Array Bool) a w, Two p lp listed → listed.size = ops.size → C w → K a → (∀ j, j < p → lp.getD j false = true) → wpAny P md ops Q s listed a w := fun lp listed a w hR hz hw hk h => hK listed a w (fun j hj => by rw [hR.lo j hj]; exact h j hj) hR.hi hR.up hz hw hk
  have hnone : ∀ lp : Array Bool, lp.size = p → (∀ j, j < p → lp.getD j false = true) → Region.ready md pre lp = [] := by
    intro lp hz h
    rw [List.eq_nil_iff_forall_not_mem]
    intro j hj
    obtain ⟨h0, o, ho, _⟩ := mem_ready.1 hj
    have hjp : j < p := by rw [← hp]; exact (Array.getElem?_eq_some_iff.1 ho).1
    rw [getD_tf (by omega), h j hjp] at h0
    cases h0
  intro fuel
  induction fuel with
  | zero =>
    intro lp listed a w hR hz hD hw h
    rw [Nat.zero_add]
    exact hall lp listed a w hR hz hw h.2 fun j hj => all_of_ready (by rw [hR.sz, hp]) hlow h.1 j (by omega)
  | succ fuel ih =>
    intro lp listed a w hR hz hD hw h
    by_cases hfull : ∀ j, j < p → lp.getD j false = true
    · have hk := h.1 (hnone lp hR.sz hfull)
      have := wpAny_add s (hall lp listed a w hR hz hw hk hfull) (fuel + 1)
      rwa [show s + (fuel + 1) = fuel + 1 + s by omega] at this
    · rw [show fuel + 1 + s = (fuel + s) + 1 by omega]
      have hlo : ∀ i, i < p → (i ∈ Region.ready md ops listed ↔ i ∈ Region.ready md pre lp) := by
        intro i hi
        rw [mem_ready, mem_ready, hR.lo i hi, hpre i hi]
        constructor
        · rintro ⟨h0, o, ho, ha⟩
          refine ⟨h0, o, ho, fun e he hb => ?_⟩
          have hlt := hlow i o ho e he hb
          rw [← hR.lo e.on (by omega)]
          exact ha e he hb
        · rintro ⟨h0, o, ho, ha⟩
          refine ⟨h0, o, ho, fun e he hb => ?_⟩
          have hlt := hlow i o ho e he hb
          rw [hR.lo e.on (by omega)]
          exact ha e he hb
      refine ⟨fun hn => ?_, fun i hi => ?_⟩
      · exfalso
        refine hfull fun j hj => all_of_ready (by rw [hR.sz, hp]) hlow ?_ j (by omega)
        rw [List.eq_nil_iff_forall_not_mem]
        intro i hi
        have hip : i < p := by
          obtain ⟨_, o, ho, _⟩ := mem_ready.1 hi
          rw [← hp]; exact (Array.getElem?_eq_some_iff.1 ho).1
        have := (hlo i hip).2 hi
        rw [hn] at this
        cases this
      · rcases Nat.lt_or_ge i p with hip | hip
        · have hi' := (hlo i hip).1 hi
          have hq := h.2 i hi'
          obtain ⟨h0, o, ho, ha⟩ := mem_ready.1 hi'
          have hstep := wpOp_of_qOp (Q' := Q) (K' := wpAny P md ops Q (fuel + s) (listed.setIfInBounds i true)) hw (fun a' w' hw' hk => by
            refine ih (lp.setIfInBounds i true) (listed.setIfInBounds i true) a' w' ⟨?_, ?_, ?_, by rw [Array.size_setIfInBounds]; exact hR.sz, by rw [Array.size_setIfInBounds]; exact hR.le⟩ (by rw [Array.size_setIfInBounds]; exact hz) ?_ hw' hk
            · intro j hj d
              by_cases hij : i = j
              · subst hij
                have e1 : i < listed.size := by have := hR.le; omega
                have e2 : i < lp.size := by rw [hR.sz]; exact hip
                simp [Array.getD, e1, e2]
              · rw [getD_set_ne d hij, getD_set_ne d hij]; exact hR.lo j hj d
            · intro j hj
              rw [getD_set_ne false (by omega)]; exact hR.hi j hj
            · intro j hj hs
              rw [getD_set_ne true (by omega)]
              exact hR.up j hj (by rwa [Array.size_setIfInBounds] at hs)
            · intro j oj hoj hl e he hb
              by_cases hij : i = j
              · subst hij
                rw [ho] at hoj
                cases hoj
                exact getD_set_true (ha e he hb)
              · rw [getD_set_ne false hij] at hl
                exact getD_set_true (hD j oj hoj hl e he hb)) hq
          unfold wpOp at hstep ⊢
          rw [hpre i hip]
          rw [ho] at hstep ⊢
          simp only at hstep ⊢
          have hgn := hg i o ho
          have hwd : ∀ y, Region.wanted o y = true := fun y => by unfold Region.wanted; rw [hgn]
          rw [if_pos (hwd _)] at hstep ⊢
          exact hstep
        · exact absurd (all_of_suf hsuf hR hD hip hi) hfull
def lowBb (md : Region.Mode) (l : List Oper) : Bool := (List.range l.length).all fun j => match l[j]? with
  | some o => o.guard.isNone && o.after.toList.all fun e => !(Region.binds md e) || decide (e.on < j)
  | none => true
def waitsB (md : Region.Mode) (o : Oper) (j : Nat) : Bool := o.after.toList.any fun e => Region.binds md e && e.on == j
def sufBb (md : Region.Mode) (l : List Oper) (p : Nat) : Bool := (List.range l.length).all fun i => decide (i < p) || match l[i]? with
  | some o => (o.after.toList.any fun e => Region.binds md e && decide (p ≤ e.on)) || (List.range p).all fun j => waitsB md o j || (List.range p).any fun j' => decide (j < j') && match l[j']? with
    | some oj => waitsB md oj j
    | none => false
  | none => true
theorem low_of {l : List Oper} {p : Nat} (h : lowBb md l = true) : LowB md (l.take p).toArray ∧ ∀ (j : Nat) (o : Oper), (l.take p).toArray[j]? = some o → o.guard = none := by
  unfold lowBb at h
  rw [List.all_eq_true] at h
  have key : ∀ (j : Nat) (o : Oper), (l.take p).toArray[j]? = some o → l[j]? = some o := by
    intro j o ho
    rw [List.getElem?_toArray, List.getElem?_take] at ho
    split at ho
    · exact ho
    · cases ho
  have h2 : ∀ (j : Nat) (o : Oper), l[j]? = some o → o.guard.isNone = true ∧ ∀ e ∈ o.after.toList, (!(Region.binds md e) || decide (e.on < j)) = true := by
    intro j o ho
    have := h j (List.mem_range.2 (List.getElem?_eq_some_iff.1 ho).1)
    rw [ho] at this
    simp only [Bool.and_eq_true, List.all_eq_true] at this
    exact this
  refine ⟨fun j o ho e he hb => ?_, fun j o ho => ?_⟩
  · have := (h2 j o (key j o ho)).2 e (Array.mem_toList_iff.2 he)
    rw [hb] at this
    simpa using this
  · have := (h2 j o (key j o ho)).1
    simpa using this
theorem waits_of {o : Oper} {j : Nat} (h : waitsB md o j = true) : ∃ e ∈ o.after, Region.binds md e = true ∧ e.on = j := by
  unfold waitsB at h
  rw [List.any_eq_true] at h
  obtain ⟨e, he, h⟩ := h
  simp at h
  exact ⟨e, Array.mem_toList_iff.1 he, h⟩
theorem suf_of {l : List Oper} {p : Nat} (h : sufBb md l p = true) : SufB md (l.take p).toArray l.toArray p := by
  unfold sufBb at h
  rw [List.all_eq_true] at h
  intro i o hip ho
  rw [List.getElem?_toArray] at ho
  have h1 := h i (List.mem_range.2 (List.getElem?_eq_some_iff.1 ho).1)
  rw [ho] at h1
  have hlt : decide (i < p) = false := by simp; omega
  rw [hlt, Bool.false_or] at h1
  simp only [Bool.or_eq_true] at h1
  rcases h1 with h1 | h1
  · left
    rw [List.any_eq_true] at h1
    obtain ⟨e, he, h1⟩ := h1
    simp at h1
    exact ⟨e, Array.mem_toList_iff.1 he, h1⟩
  · right
    intro j hj
    rw [List.all_eq_true] at h1
    have h2 := h1 j (List.mem_range.2 hj)
    simp only [Bool.or_eq_true] at h2
    rcases h2 with h2 | h2
    · exact .inl (waits_of h2)
    · right
      rw [List.any_eq_true] at h2
      obtain ⟨j', hj', h2⟩ := h2
      rw [Bool.and_eq_true] at h2
      obtain ⟨h3, h4⟩ := h2
      split at h4
      · rename_i oj hoj
        refine ⟨j', oj, by simpa using h3, List.mem_range.1 hj', ?_, waits_of h4⟩
        rw [List.getElem?_toArray, List.getElem?_take, if_pos (List.mem_range.1 hj'), hoj]
      · cases h4
def lastOnes (p s : Nat) : Array Bool := (List.replicate p true ++ List.replicate s false).toArray
/-- a region that draws: the first p operations are quiet and walked in the text's order; the last s ones, which wait for them, as they come -/
theorem wp_region_two {id : Nat} {Q : Exit → Act → World → Prop} {a : Act} {w : World} {l : List Oper} (p s : Nat) (hl : l.length = p + s) (hm : P.follows .mixedOrders = true) (hB : Region.lexB .any (l.take p).toArray = true) (hlow : lowBb .any l = true) (hsuf : sufBb .any l p = true)
    (h : wpQuiet P (l.take p).toArray (fun w' => ∃ n, w' = w.drewN n) (fun a' => ∀ w', (∃ n, w' = w.drewN n) → wpAny P .any l.toArray Q s (lastOnes p s) a' w') (l.take p) a) : (Code.region id l.toArray true).wp P Q a w := by
  refine wp_region_any hm ?_
  have hps : (l.take p).toArray.size = p := by simp; omega
  obtain ⟨h1, h2⟩ := low_of (p := p) hlow
  simp only [Region.lexB, Bool.and_eq_true] at hB
  have hq := wpAnyQ_lex (P := P) (C := fun w' => ∃ n, w' = w.drewN n) (md := .any) hB.1 (l.take p) 0 (Array.replicate (l.take p).toArray.size false) a (by simp) (by simpa using hB.2) h
  have := wpAny_two (P := P) (md := .any) (C := fun w' => ∃ n, w' = w.drewN n) (pre := (l.take p).toArray) (ops := l.toArray) (p := p) (s := s) (K := fun a' => ∀ w', (∃ n, w' = w.drewN n) → wpAny P .any l.toArray Q s (lastOnes p s) a' w') (Q := Q) hps (fun j hj => by
      rw [List.getElem?_toArray, List.getElem?_toArray, List.getElem?_take, if_pos hj]) h2 h1 (suf_of hsuf) (fun listed a w' g1 g2 g3 g4 hC hK => by
      have e : listed = lastOnes p s := by
        apply Array.ext
        · rw [g4]; simp [lastOnes, hl]
        · intro i hi1 hi2
          by_cases hip : i < p
          · have := g1 i hip
            rw [Array.getD_eq_getD_getElem?, Array.getElem?_eq_getElem hi1] at this
            simp only [Option.getD_some] at this
            rw [this]
            simp [lastOnes, hip, List.getElem_append]
          · have := g2 i (by omega)
            rw [Array.getD_eq_getD_getElem?, Array.getElem?_eq_getElem hi1] at this
            simp only [Option.getD_some] at this
            rw [this]
            simp [lastOnes, hip, List.getElem_append]
      rw [e]
      exact hK w' hC) p (Array.replicate p false) (Array.replicate l.toArray.size false) a { w with drawn := w.drawn + 1 } ⟨fun j hj d => by
        have : j < l.length := by omega
        simp [Array.getD, hj, this], fun j hj => by
        simp [Array.getD], fun j hj hs => by
        simp at hs
        simp [Array.getD, hs], by simp, by simp; omega⟩ (by simp) (fun j o ho hl' => by
        simp [Array.getD] at hl') ⟨1, rfl⟩ (by
        have e2 : (l.take p).length = p := by simp; omega
        rw [hps, e2] at hq
        exact hq)
  have e3 : l.toArray.size = p + s := by simp [hl]
  rw [e3] at this ⊢
  exact this
theorem wpAny_one {ops : Array Oper} {Q : Exit → Act → World → Prop} {n : Nat} {listed : Array Bool} {a : Act} {w : World} (i : Nat) (hr : Region.ready md ops listed = [i]) (h : wpOp P ops Q i (wpAny P md ops Q n (listed.setIfInBounds i true)) a w) : wpAny P md ops Q (n + 1) listed a w :=
  ⟨fun h0 => by rw [hr] at h0; (cases h0), fun j hj => by rw [hr, List.mem_singleton] at hj; rw [hj]; exact h⟩
theorem wpOp_at {ops : Array Oper} {Q : Exit → Act → World → Prop} {i : Nat} {o : Oper} {K : Act → World → Prop} {a : Act} {w : World} (ho : ops[i]? = some o) (hg : o.guard = none) (h : o.wp P a w K Q) : wpOp P ops Q i K a w := by
  unfold wpOp
  rw [ho]
  simp only
  rw [if_pos (by unfold Region.wanted; rw [hg])]
  exact .inl h
end Go
