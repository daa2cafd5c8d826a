/- intern: what is put is found again. -/
import Derived.Test.YtddlicbogbmpbaaIP10
namespace Go.Proofs.Ytddlicbogbmpbaa
open Go Go.RowKit
set_option linter.unusedVariables false
set_option linter.unusedSimpArgs false

theorem idx_get {α : Type} [DecidableEq α] {l : List α} {a : α} (h : 0 ≤ idx l a) : l[(idx l a).toNat]? = some a := by
  unfold idx at h ⊢
  cases hk : l.findIdx? (fun b => decide (b = a)) with
  | none => rw [hk] at h; simp at h
  | some k =>
    simp only [Int.toNat_natCast]
    rw [List.findIdx?_eq_some_iff_getElem] at hk
    obtain ⟨h1, h2, _⟩ := hk
    rw [List.getElem?_eq_getElem h1]
    simpa using h2
theorem nodup_get {α : Type} {l : List α} (h : l.Nodup) {i j : Nat} {a : α} (hi : l[i]? = some a) (hj : l[j]? = some a) : i = j := by
  have hp := List.nodup_iff_pairwise_ne.1 h
  rw [List.pairwise_iff_getElem] at hp
  obtain ⟨h1, e1⟩ := List.getElem?_eq_some_iff.1 hi
  obtain ⟨h2, e2⟩ := List.getElem?_eq_some_iff.1 hj
  rcases Nat.lt_trichotomy i j with c | c | c
  · exact absurd (e1.trans e2.symm) (hp i j h1 h2 c)
  · exact c
  · exact absurd (e2.trans e1.symm) (hp j i h2 h1 c)
theorem idx_nodup {α : Type} [DecidableEq α] {l : List α} (h : l.Nodup) {k : Nat} {a : α} (hk : l[k]? = some a) : idx l a = k := by
  have h0 : 0 ≤ idx l a := (idx_take l a).2 (List.mem_of_getElem? hk)
  have := nodup_get h (idx_get h0) hk
  omega
theorem idx_neg {α : Type} [DecidableEq α] {l : List α} {a : α} (h : ¬ 0 ≤ idx l a) : ¬ a ∈ l := fun hm => h ((idx_take l a).2 hm)

/-- a place stands for a stack (the last frame first) -/
def Is (n : List (List UInt8)) (T : List (Int × Int)) : List (List UInt8) → Int → Prop
  | [], i => i = -1
  | a :: l, i => ∃ p, 0 ≤ i ∧ T[i.toNat]? = some p ∧ 0 ≤ p.2 ∧ n[p.2.toNat]? = some a ∧ Is n T l p.1

theorem Is.low {n : List (List UInt8)} {T : List (Int × Int)} : ∀ {l : List (List UInt8)} {i : Int}, Is n T l i → -1 ≤ i ∧ i < T.length
  | [], i, h => by simp [Is] at h; omega
  | a :: l, i, ⟨p, h1, h2, _⟩ => by
    have := (List.getElem?_eq_some_iff.1 h2).1
    omega
theorem Is.ups {n : List (List UInt8)} {T : List (Int × Int)} (g : TGood n T) : ∀ {l : List (List UInt8)} {i : Int}, Is n T l i → ∀ f : Nat, i < f → upS n T f i = l
  | [], i, h, f, hf => by
    simp [Is] at h
    cases f with
    | zero => rfl
    | succ f => simp only [upS]; rw [if_pos (by omega)]
  | a :: l, i, ⟨p, h1, h2, h3, h4, h5⟩, f, hf => by
    cases f with
    | zero => omega
    | succ f =>
      simp only [upS]
      rw [if_neg (by omega), h2]
      have := (g.rg _ _ h2).2.1
      simp only [h4, Option.getD_some]
      rw [Is.ups g h5 f (by omega)]
theorem Is.fn {n : List (List UInt8)} {T : List (Int × Int)} (g : TGood n T) {l m : List (List UInt8)} {i : Int} (h : Is n T l i) (h' : Is n T m i) : l = m := by
  rw [← h.ups g (i + 1).toNat (by omega), h'.ups g (i + 1).toNat (by omega)]
theorem Is.one {n : List (List UInt8)} {T : List (Int × Int)} (g : TGood n T) : ∀ {l : List (List UInt8)} {i j : Int}, Is n T l i → Is n T l j → i = j
  | [], i, j, h, h' => by simp [Is] at h h'; omega
  | a :: l, i, j, ⟨p, h1, h2, h3, h4, h5⟩, ⟨q, k1, k2, k3, k4, k5⟩ => by
    have e1 := Is.one g h5 k5
    have e2 := nodup_get g.nn h4 k4
    have e3 : p = q := Prod.ext e1 (by omega)
    subst e3
    have := nodup_get g.nT h2 k2
    omega
theorem pre_get {α : Type} {l m : List α} (h : l <+: m) {i : Nat} {a : α} (hi : l[i]? = some a) : m[i]? = some a := by
  obtain ⟨r, rfl⟩ := h
  rw [List.getElem?_append_left (List.getElem?_eq_some_iff.1 hi).1, hi]
theorem Is.grow {n n' : List (List UInt8)} {T T' : List (Int × Int)} (hn : n <+: n') (hT : T <+: T') : ∀ {l : List (List UInt8)} {i : Int}, Is n T l i → Is n' T' l i
  | [], i, h => h
  | a :: l, i, ⟨p, h1, h2, h3, h4, h5⟩ => ⟨p, h1, pre_get hT h2, h3, pre_get hn h4, Is.grow hn hT h5⟩

theorem dp_app {T : List (Int × Int)} {q : Int × Int} (hd : Down T T.length) : ∀ (f i : Nat), i < T.length → dp (T ++ [q]) f i = dp T f i
  | 0, i, h => rfl
  | f + 1, i, h => by
    simp only [dp]
    rw [List.getElem?_append_left h]
    cases hp : T[i]? with
    | none => rfl
    | some p =>
      simp only
      split
      · rfl
      · rw [dp_app hd f p.1.toNat (by have := hd i p h hp; omega)]
theorem Is.dep {n : List (List UInt8)} {T : List (Int × Int)} (g : TGood n T) : ∀ {l : List (List UInt8)} {i : Int}, Is n T l i → 0 ≤ i → dpt T i.toNat = l.length
  | [], i, h, h0 => by simp [Is] at h; omega
  | a :: l, i, ⟨p, h1, h2, h3, h4, h5⟩, h0 => by
    rw [dpt_step h2 (g.down _)]
    split
    · cases l with
      | nil => simp
      | cons b l => obtain ⟨q, k1, _⟩ := h5; omega
    · rw [Is.dep g h5 (by omega)]
      simp; omega

theorem Is.names {n : List (List UInt8)} {T : List (Int × Int)} : ∀ {l : List (List UInt8)} {i : Int}, Is n T l i → ∀ a ∈ l, a ∈ n
  | [], i, h, a, ha => by simp at ha
  | b :: l, i, ⟨p, h1, h2, h3, h4, h5⟩, a, ha => by
    rcases List.mem_cons.1 ha with rfl | ha
    · exact List.mem_of_getElem? h4
    · exact Is.names h5 a ha

theorem good_name {n : List (List UInt8)} {T : List (Int × Int)} (g : TGood n T) {s : List UInt8} (h1 : nameOk s = true) (h2 : ¬ s ∈ n) (h3 : n.length < 1000) : TGood (n ++ [s]) T :=
  ⟨by simp; omega, g.lT, fun a ha => by
    rcases List.mem_append.1 ha with ha | ha
    · exact g.ok a ha
    · simp at ha; rw [ha]; exact h1, List.nodup_append.2 ⟨g.nn, by simp, fun a ha b hb => by simp at hb; subst hb; exact fun e => h2 (e ▸ ha)⟩, g.nT, fun k p hp => by
    have := g.rg k p hp
    simp; omega, g.dd⟩
theorem good_put {n : List (List UInt8)} {T : List (Int × Int)} (g : TGood n T) (s : List UInt8) (h : (putR n s).2.2 = 0) :
    TGood (putR n s).2.1 T ∧ n <+: (putR n s).2.1 ∧ 0 ≤ (putR n s).1 ∧ (putR n s).2.1[(putR n s).1.toNat]? = some s := by
  unfold putR at h ⊢
  split at h
  · rename_i c1
    rw [if_pos c1]
    split at h
    · rename_i c2
      rw [if_pos c2]
      exact ⟨g, List.prefix_refl _, c2, idx_get c2⟩
    · rename_i c2
      rw [if_neg c2]
      split at h
      · cases h
      · rename_i c3
        rw [if_neg c3]
        exact ⟨good_name g c1 (idx_neg c2) (by omega), List.prefix_append _ _, by simp, by simp⟩
  · cases h
theorem good_stack {n : List (List UInt8)} {T : List (Int × Int)} (g : TGood n T) {l : List (List UInt8)} {i : Int} (hi : Is n T l i) (hl : l.length < 32) {q : Int} (hq : 0 ≤ q ∧ q < n.length) (hn : ¬ (i, q) ∈ T) (h3 : T.length < 1000) : TGood n (T ++ [(i, q)]) := by
  have hd := g.down T.length
  have hlow := hi.low
  have hlast : (T ++ [(i, q)])[T.length]? = some (i, q) := by simp
  have hD : Down (T ++ [(i, q)]) (T.length + 1) := by
    intro j p hj hp
    by_cases e : j = T.length
    · subst e
      rw [hlast] at hp; cases hp
      exact hlow.2
    · rw [List.getElem?_append_left (by omega)] at hp
      exact (g.rg j p hp).2.1
  refine ⟨g.ln, by simp; omega, g.ok, g.nn, List.nodup_append.2 ⟨g.nT, by simp, fun a ha b hb => by simp at hb; subst hb; exact fun e => hn (e ▸ ha)⟩, fun k p hp => ?_, fun k p hp => ?_⟩
  · by_cases e : k = T.length
    · subst e
      rw [hlast] at hp; cases hp
      simp only
      omega
    · have hk : k < T.length := by have := (List.getElem?_eq_some_iff.1 hp).1; simp at this; omega
      rw [List.getElem?_append_left hk] at hp
      exact g.rg k p hp
  · by_cases e : k = T.length
    · subst e
      rw [hlast] at hp; cases hp
      rw [dpt_step hlast hD]
      split
      · omega
      · rename_i h0
        simp only at h0
        have : dpt (T ++ [(i, q)]) i.toNat = dpt T i.toNat := dp_app hd _ _ (by omega)
        simp only
        rw [this, hi.dep g (by omega)]
        omega
    · have hk : k < T.length := by have := (List.getElem?_eq_some_iff.1 hp).1; simp at this; omega
      rw [List.getElem?_append_left hk] at hp
      have := g.dd k p hp
      have e2 : dpt (T ++ [(i, q)]) k = dpt T k := dp_app hd _ _ hk
      rw [e2]; exact this

theorem step_good {u v : PS} {a : List UInt8} {l : List (List UInt8)} (h : stepP u a = .ok v) (g : TGood u.n u.T) (hi : Is u.n u.T l u.ix) (hl : l.length < 32) :
    TGood v.n v.T ∧ u.n <+: v.n ∧ u.T <+: v.T ∧ Is v.n v.T (a :: l) v.ix := by
  unfold stepP at h
  split at h
  · rename_i hp
    obtain ⟨g1, g2, g3, g4⟩ := good_put g a hp
    generalize putR u.n a = r at *
    obtain ⟨q, n', e⟩ := r
    simp only at g1 g2 g3 g4 h hp
    have hi' := hi.grow g2 (List.prefix_refl _)
    split at h
    · rename_i c
      cases h
      exact ⟨g1, g2, List.prefix_refl _, _, c, idx_get c, g3, g4, hi'⟩
    · rename_i c
      split at h
      · cases h
      · rename_i c3
        cases h
        refine ⟨good_stack g1 hi' hl ⟨g3, ?_⟩ (idx_neg c) (by omega), g2, List.prefix_append _ _, (u.ix, q), ?_, ?_, g3, g4, hi'.grow (List.prefix_refl _) (List.prefix_append _ _)⟩
        · have := (List.getElem?_eq_some_iff.1 g4).1; omega
        · simp
        · simp
  · cases h
theorem fold_good : ∀ (l : List (List UInt8)) {u v : PS} {r : List (List UInt8)}, foldX stepP l u = .ok v → TGood u.n u.T → Is u.n u.T r u.ix → r.length + l.length ≤ 32 →
    TGood v.n v.T ∧ u.n <+: v.n ∧ u.T <+: v.T ∧ Is v.n v.T (l.reverse ++ r) v.ix
  | [], u, v, r, h, g, hi, hl => by
    simp [foldX] at h; subst h
    exact ⟨g, List.prefix_refl _, List.prefix_refl _, hi⟩
  | a :: l, u, v, r, h, g, hi, hl => by
    simp only [foldX] at h
    split at h
    · rename_i y hy
      obtain ⟨a1, a2, a3, a4⟩ := step_good hy g hi (by simp at hl; omega)
      obtain ⟨b1, b2, b3, b4⟩ := fold_good l h a1 a4 (by simp at hl ⊢; omega)
      exact ⟨b1, a2.trans b2, a3.trans b3, by simpa using b4⟩
    · cases h
theorem stepP_err {u : PS} {a : List UInt8} {e : Int} (h : stepP u a = .error e) : e ≠ 0 := by
  unfold stepP at h
  split at h
  · split at h
    · cases h
    · split at h
      · cases h; decide
      · cases h
  · cases h; assumption
theorem foldX_err {α σ : Type} {step : σ → α → Except Int σ} (hs : ∀ u a e, step u a = .error e → e ≠ 0) : ∀ (l : List α) (u : σ) (e : Int), foldX step l u = .error e → e ≠ 0
  | [], u, e, h => by simp [foldX] at h
  | a :: l, u, e, h => by
    simp only [foldX] at h
    split at h
    · exact foldX_err hs l _ e h
    · rename_i e' he; cases h; exact hs _ _ _ he

/-- what PutStack does -/
theorem putS_spec {n : List (List UInt8)} {T : List (Int × Int)} (g : TGood n T) (l : List (List UInt8)) :
    TGood (putS n T l).2.1 (putS n T l).2.2.1 ∧ n <+: (putS n T l).2.1 ∧ T <+: (putS n T l).2.2.1 ∧
    (((putS n T l).2.2.2 = 0 ∧ framesE l = 0 ∧ Is (putS n T l).2.1 (putS n T l).2.2.1 l.reverse (putS n T l).1) ∨ ((putS n T l).2.2.2 ≠ 0 ∧ putS n T l = (0, n, T, (putS n T l).2.2.2))) := by
  unfold putS
  split
  · rename_i hf
    split
    · rename_i y hy
      obtain ⟨b1, b2, b3, b4⟩ := fold_good l hy g (r := []) rfl (by have := framesE_len hf; simpa using this)
      exact ⟨b1, b2, b3, .inl ⟨rfl, hf, by simpa using b4⟩⟩
    · rename_i e he
      exact ⟨g, List.prefix_refl _, List.prefix_refl _, .inr ⟨foldX_err (fun _ _ _ h => stepP_err h) _ _ _ he, rfl⟩⟩
  · rename_i hf
    exact ⟨g, List.prefix_refl _, List.prefix_refl _, .inr ⟨hf, rfl⟩⟩

theorem foldX_app {α σ : Type} {step : σ → α → Except Int σ} : ∀ (l m : List α) (u : σ), foldX step (l ++ m) u = match foldX step l u with | .ok v => foldX step m v | .error e => .error e
  | [], m, u => rfl
  | a :: l, m, u => by
    simp only [List.cons_append, foldX]
    split
    · exact foldX_app l m _
    · rfl
theorem again_fold {n : List (List UInt8)} {T : List (Int × Int)} (g : TGood n T) : ∀ (l : List (List UInt8)) {i : Int}, Is n T l i → foldX stepP l.reverse ⟨n, T, -1⟩ = .ok ⟨n, T, i⟩
  | [], i, h => by simp [Is] at h; subst h; rfl
  | a :: l, i, ⟨p, h1, h2, h3, h4, h5⟩ => by
    rw [List.reverse_cons, foldX_app, again_fold g l h5]
    have e1 : idx n a = p.2 := by rw [idx_nodup g.nn h4]; omega
    have e2 : idx T (p.1, p.2) = i := by rw [idx_nodup g.nT h2]; omega
    have e3 : putR n a = (p.2, n, 0) := by
      unfold putR
      rw [if_pos (g.ok a (List.mem_of_getElem? h4)), e1, if_pos h3]
    simp only [foldX, stepP, e3, if_true, e2]
    rw [if_pos h1]
theorem again_put {n : List (List UInt8)} {T : List (Int × Int)} (g : TGood n T) {l : List (List UInt8)} {i : Int} (hf : framesE l = 0) (h : Is n T l.reverse i) : putS n T l = (i, n, T, 0) := by
  have := again_fold g _ h
  rw [List.reverse_reverse] at this
  unfold putS
  rw [if_pos hf, this]
end Go.Proofs.Ytddlicbogbmpbaa
