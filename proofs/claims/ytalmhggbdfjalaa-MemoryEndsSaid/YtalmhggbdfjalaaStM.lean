/- Stable sorting, in plain lists: what a stable sorted list is, that there is one only, and what SymMerge needs. -/
namespace Go.Proofs.Ytalmhggbdfjalaa
set_option linter.unusedVariables false
set_option linter.unusedSimpArgs false
section
variable {α : Type}

structure Ordr (le : α → α → Bool) : Prop where
  tr : ∀ {a b c}, le a b = true → le b c = true → le a c = true
  tot : ∀ a b, le a b = true ∨ le b a = true
def eqv (le : α → α → Bool) (a b : α) : Bool := le a b && le b a
theorem Ordr.refl {le : α → α → Bool} (o : Ordr le) (a : α) : le a a = true := by
  rcases o.tot a a with h | h <;> exact h
theorem eqv_refl {le : α → α → Bool} (o : Ordr le) (a : α) : eqv le a a = true := by
  unfold eqv; rw [o.refl]; rfl
theorem eqv_iff {le : α → α → Bool} {a b : α} : eqv le a b = true ↔ le a b = true ∧ le b a = true := by
  unfold eqv; rw [Bool.and_eq_true]
def Srt (le : α → α → Bool) (s : List α) : Prop := s.Pairwise (fun a b => le a b = true)
/-- s is l, sorted, and equals keep their order -/
def SSt (le : α → α → Bool) (s l : List α) : Prop := Srt le s ∧ ∀ a, s.filter (eqv le a) = l.filter (eqv le a)
theorem SSt.mem {le : α → α → Bool} (o : Ordr le) {s l : List α} (h : SSt le s l) (x : α) : x ∈ s ↔ x ∈ l := by
  have e := h.2 x
  constructor
  · intro hx
    have : x ∈ s.filter (eqv le x) := List.mem_filter.2 ⟨hx, eqv_refl o x⟩
    rw [e] at this
    exact (List.mem_filter.1 this).1
  · intro hx
    have : x ∈ l.filter (eqv le x) := List.mem_filter.2 ⟨hx, eqv_refl o x⟩
    rw [← e] at this
    exact (List.mem_filter.1 this).1
theorem SSt_uniq' {le : α → α → Bool} (o : Ordr le) : ∀ {s t : List α}, Srt le s → Srt le t → (∀ a, s.filter (eqv le a) = t.filter (eqv le a)) → s = t
  | [], [], _, _, _ => rfl
  | [], b :: t, _, _, h => by
    have := h b
    rw [List.filter_cons, if_pos (eqv_refl o b)] at this
    cases this
  | a :: s, [], _, _, h => by
    have := h a
    rw [List.filter_cons, if_pos (eqv_refl o a)] at this
    cases this
  | a :: s, b :: t, hs, ht, h => by
    have hs' := List.pairwise_cons.1 hs
    have ht' := List.pairwise_cons.1 ht
    have ha : a ∈ b :: t := by
      have : a ∈ (a :: s).filter (eqv le a) := List.mem_filter.2 ⟨List.mem_cons_self .., eqv_refl o a⟩
      rw [h a] at this
      exact (List.mem_filter.1 this).1
    have hb : b ∈ a :: s := by
      have : b ∈ (b :: t).filter (eqv le b) := List.mem_filter.2 ⟨List.mem_cons_self .., eqv_refl o b⟩
      rw [← h b] at this
      exact (List.mem_filter.1 this).1
    have l1 : le a b = true := by
      rcases List.mem_cons.1 hb with e | e
      · rw [e]; exact o.refl a
      · exact hs'.1 b e
    have l2 : le b a = true := by
      rcases List.mem_cons.1 ha with e | e
      · rw [e]; exact o.refl b
      · exact ht'.1 a e
    have e1 := h a
    rw [List.filter_cons, if_pos (eqv_refl o a), List.filter_cons, if_pos (eqv_iff.2 ⟨l1, l2⟩)] at e1
    obtain ⟨rfl, _⟩ := List.cons.inj e1
    congr 1
    refine SSt_uniq' o hs'.2 ht'.2 fun c => ?_
    have e2 := h c
    rw [List.filter_cons, List.filter_cons] at e2
    split at e2
    · exact (List.cons.inj e2).2
    · exact e2
theorem SSt.uniq {le : α → α → Bool} (o : Ordr le) {s t l : List α} (h1 : SSt le s l) (h2 : SSt le t l) : s = t :=
  SSt_uniq' o h1.1 h2.1 fun a => (h1.2 a).trans (h2.2 a).symm
theorem SSt.self {le : α → α → Bool} {s : List α} (h : Srt le s) : SSt le s s := ⟨h, fun _ => rfl⟩
theorem SSt.app {le : α → α → Bool} {s t l m w : List α} (h1 : SSt le s l) (h2 : SSt le t m) (h : SSt le w (s ++ t)) : SSt le w (l ++ m) :=
  ⟨h.1, fun a => by rw [h.2, List.filter_append, List.filter_append, h1.2, h2.2]⟩
theorem filter_none {le : α → α → Bool} {a : α} {l : List α} (h : ∀ x ∈ l, eqv le a x = false) : l.filter (eqv le a) = [] := by
  rw [List.filter_eq_nil_iff]
  intro x hx
  rw [h x hx]
  exact Bool.false_ne_true
/-- what SymMerge does: A = A1 ++ A2, B = B1 ++ B2 -/
theorem SSt.sym {le : α → α → Bool} (o : Ordr le) {A1 A2 B1 B2 M1 M2 : List α} (hA : Srt le (A1 ++ A2)) (hB : Srt le (B1 ++ B2)) (h12 : ∀ x ∈ A1, ∀ y ∈ B2, le x y = true) (h21 : ∀ y ∈ B1, ∀ x ∈ A2, le x y = false)
    (h1 : SSt le M1 (A1 ++ B1)) (h2 : SSt le M2 (A2 ++ B2)) : SSt le (M1 ++ M2) ((A1 ++ A2) ++ (B1 ++ B2)) := by
  obtain ⟨a1, a2, a3⟩ := List.pairwise_append.1 hA
  obtain ⟨b1, b2, b3⟩ := List.pairwise_append.1 hB
  refine ⟨List.pairwise_append.2 ⟨h1.1, h2.1, fun x hx y hy => ?_⟩, fun c => ?_⟩
  · rw [h1.mem o, List.mem_append] at hx
    rw [h2.mem o, List.mem_append] at hy
    rcases hx with hx | hx <;> rcases hy with hy | hy
    · exact a3 x hx y hy
    · exact h12 x hx y hy
    · have := h21 x hx y hy
      rcases o.tot x y with h | h
      · exact h
      · rw [h] at this; cases this
    · exact b3 x hx y hy
  · rw [List.filter_append, h1.2, h2.2]
    simp only [List.filter_append, List.append_assoc]
    congr 1
    rw [← List.append_assoc, ← List.append_assoc]
    congr 1
    by_cases hc : ∃ x ∈ A2, eqv le c x = true
    · obtain ⟨x, hx, hcx⟩ := hc
      have : B1.filter (eqv le c) = [] := filter_none fun y hy => by
        cases hcy : eqv le c y with
        | false => rfl
        | true =>
          have := h21 y hy x hx
          rw [o.tr (eqv_iff.1 hcx).2 (eqv_iff.1 hcy).1] at this
          cases this
      rw [this, List.append_nil, List.nil_append]
    · have : A2.filter (eqv le c) = [] := filter_none fun y hy => by
        cases hcy : eqv le c y with
        | false => rfl
        | true => exact absurd ⟨y, hy, hcy⟩ hc
      rw [this, List.append_nil, List.nil_append]
/-- one more, behind all that are not greater -/
theorem SSt.ins {le : α → α → Bool} (o : Ordr le) {S1 S2 : List α} {x : α} (h : Srt le (S1 ++ S2)) (h1 : ∀ y ∈ S1, le y x = true) (h2 : ∀ y ∈ S2, le y x = false) : SSt le (S1 ++ x :: S2) (S1 ++ S2 ++ [x]) := by
  have e := SSt.sym (A1 := S1) (A2 := S2) (B1 := [x]) (B2 := []) (M1 := S1 ++ [x]) (M2 := S2) o h (by simp [Srt]) (fun _ _ _ h => by simp at h) (fun y hy z hz => by
    simp at hy; subst hy; exact h2 z hz) ?_ ?_
  · simpa using e
  · refine SSt.self (List.pairwise_append.2 ⟨(List.pairwise_append.1 h).1, by simp, fun a ha b hb => ?_⟩)
    simp at hb; subst hb; exact h1 a ha
  · rw [List.append_nil]; exact SSt.self (List.pairwise_append.1 h).2.1
/-- the stable insertion sort -/
def putS (le : α → α → Bool) (b : α) : List α → List α
  | [] => [b]
  | x :: t => if le x b then x :: putS le b t else b :: x :: t
def srtS (le : α → α → Bool) (l : List α) : List α := l.foldl (fun s b => putS le b s) []
theorem putS_split {le : α → α → Bool} (o : Ordr le) (b : α) : ∀ {s : List α}, Srt le s → ∃ S1 S2, s = S1 ++ S2 ∧ putS le b s = S1 ++ b :: S2 ∧ (∀ y ∈ S1, le y b = true) ∧ ∀ y ∈ S2, le y b = false
  | [], _ => ⟨[], [], rfl, rfl, by simp, by simp⟩
  | x :: t, h => by
    have h' := List.pairwise_cons.1 h
    unfold putS
    by_cases hx : le x b = true
    · obtain ⟨S1, S2, e1, e2, e3, e4⟩ := putS_split o b h'.2
      rw [if_pos hx, e2]
      refine ⟨x :: S1, S2, by rw [e1]; rfl, rfl, ?_, e4⟩
      intro y hy
      rcases List.mem_cons.1 hy with rfl | hy
      · exact hx
      · exact e3 y hy
    · rw [if_neg hx]
      refine ⟨[], x :: t, rfl, rfl, by simp, ?_⟩
      intro y hy
      rcases List.mem_cons.1 hy with rfl | hy
      · simpa using hx
      · cases hyb : le y b with
        | false => rfl
        | true => exact absurd (o.tr (h'.1 y hy) hyb) hx
theorem putS_SSt {le : α → α → Bool} (o : Ordr le) (b : α) {s l : List α} (h : SSt le s l) : SSt le (putS le b s) (l ++ [b]) := by
  obtain ⟨S1, S2, e1, e2, e3, e4⟩ := putS_split o b h.1
  rw [e2]
  refine SSt.app h (SSt.self (by simp [Srt])) ?_
  rw [e1]
  exact SSt.ins o (by rw [← e1]; exact h.1) e3 e4
theorem srtS_snoc (le : α → α → Bool) (l : List α) (b : α) : srtS le (l ++ [b]) = putS le b (srtS le l) := by
  unfold srtS
  rw [List.foldl_append]
  rfl
theorem srtS_SSt {le : α → α → Bool} (o : Ordr le) (l : List α) : SSt le (srtS le l) l := by
  suffices h : ∀ n, ∀ l : List α, l.length = n → SSt le (srtS le l) l from h _ l rfl
  intro n
  induction n with
  | zero =>
    intro l hl
    have := List.length_eq_zero_iff.1 hl
    subst this
    exact ⟨List.Pairwise.nil, fun _ => rfl⟩
  | succ n ih =>
    intro l hl
    have hne : l ≠ [] := by rintro rfl; simp at hl
    have e := List.dropLast_concat_getLast hne
    rw [← e, srtS_snoc]
    exact putS_SSt o _ (ih _ (by simp [hl]))
theorem SSt.eq {le : α → α → Bool} (o : Ordr le) {s l : List α} (h : SSt le s l) : s = srtS le l := h.uniq o (srtS_SSt o l)
theorem putS_len (le : α → α → Bool) (b : α) : ∀ s : List α, (putS le b s).length = s.length + 1
  | [] => rfl
  | x :: t => by
    unfold putS
    split
    · rw [List.length_cons, putS_len le b t, List.length_cons]
    · rfl
theorem putS_perm (le : α → α → Bool) (b : α) : ∀ s : List α, (putS le b s).Perm (b :: s)
  | [] => List.Perm.refl _
  | x :: t => by
    unfold putS
    split
    · exact ((putS_perm le b t).cons x).trans (List.Perm.swap b x t)
    · exact List.Perm.refl _
theorem srtS_perm (le : α → α → Bool) (l : List α) : (srtS le l).Perm l := by
  suffices h : ∀ (l s : List α), (l.foldl (fun s b => putS le b s) s).Perm (s ++ l) by
    have := h l []
    simpa [srtS] using this
  intro l
  induction l with
  | nil => intro s; simp
  | cons b l ih =>
    intro s
    rw [List.foldl_cons]
    refine (ih (putS le b s)).trans ?_
    refine ((putS_perm le b s).append_right l).trans ?_
    rw [List.cons_append]
    exact (List.perm_middle).symm
theorem srtS_len (le : α → α → Bool) (l : List α) : (srtS le l).length = l.length := (srtS_perm le l).length_eq
/-- two sorted pieces, one behind the other -/
theorem srtS_app {le : α → α → Bool} (o : Ordr le) (l m : List α) : srtS le (srtS le l ++ srtS le m) = srtS le (l ++ m) := by
  refine SSt.eq o ?_
  exact SSt.app (srtS_SSt o l) (srtS_SSt o m) (srtS_SSt o _)
theorem srtS_self {le : α → α → Bool} (o : Ordr le) {s : List α} (h : Srt le s) : srtS le s = s := (SSt.self h).eq o |>.symm
/-- blocks of k, each sorted -/
def blkS (le : α → α → Bool) (k : Nat) : Nat → List α → List α
  | 0, l => l
  | n + 1, l => if l.length ≤ k then srtS le l else srtS le (l.take k) ++ blkS le k n (l.drop k)
end
end Go.Proofs.Ytalmhggbdfjalaa
