/- memory.Of: what its loop makes. -/
import Derived.Test.YtalmhggbdfjalaaMmD
import Derived.Test.YtalmhggbdfjalaaStK
namespace Go.Proofs.Ytalmhggbdfjalaa
open Go Go.RowKit
set_option linter.unusedVariables false
set_option linter.unusedSimpArgs false

def isA (t : Td) : Bool := decide (t.kd = 11)
def isE (n : Int) (x : Td) : Bool := decide (x.n = n) && (decide (x.kd = 11) || decide (x.kd = 12))
/-- the block that begins at an event, in front of others -/
def mkB (e : Int) (t : Td) (r : List Td) : Bk := match r.find? (isE t.n) with
  | some x => ⟨t.n, t.th, t.m, tm t, tm x, t.st, false⟩
  | none => newB e t
def allB (e : Int) : List Td → List Bk
  | [] => []
  | t :: r => (if isA t = true then [mkB e t r] else []) ++ allB e r
def clo (t : Td) (b : Bk) : Bk := if b.lv = true ∧ isE b.i t = true then { b with e := tm t, lv := false } else b
theorem mkB_snoc (e : Int) (t x : Td) (r : List Td) : mkB e t (r ++ [x]) = clo x (mkB e t r) := by
  unfold mkB clo
  rw [List.find?_append]
  cases h : r.find? (isE t.n) with
  | some y => simp
  | none =>
    simp only [Option.none_or, newB, true_and]
    cases hx : isE t.n x with
    | true => simp [hx]
    | false => simp [hx]
theorem allB_snoc (e : Int) (x : Td) : ∀ r : List Td, allB e (r ++ [x]) = (allB e r).map (clo x) ++ (if isA x = true then [newB e x] else [])
  | [] => by simp [allB, mkB]
  | t :: r => by
    rw [List.cons_append]
    unfold allB
    rw [allB_snoc e x r, mkB_snoc]
    cases isA t <;> simp
theorem allB_len (e : Int) : ∀ r : List Td, (allB e r).length ≤ r.length
  | [] => by simp [allB]
  | t :: r => by
    have := allB_len e r
    unfold allB
    rw [List.length_append, List.length_cons]
    split <;> simp <;> omega
/-- the map knows the live blocks -/
structure MInv (a : List Bk) (ms : List (Int × Nat)) : Prop where
  m : ∀ n j, aget n ms = some j ↔ ∃ b, a[j]? = some b ∧ b.lv = true ∧ b.i = n
  nd : (ms.map Prod.fst).Nodup
theorem aget_none {n : Int} : ∀ {ms : List (Int × Nat)}, aget n ms = none ↔ n ∉ ms.map Prod.fst
  | [] => by simp [aget]
  | p :: r => by
    simp only [aget, List.map_cons, List.mem_cons, not_or]
    by_cases h : p.1 = n
    · simp [h]
    · rw [if_neg h, aget_none]
      constructor
      · intro h1; exact ⟨fun e => h e.symm, h1⟩
      · exact fun h1 => h1.2
theorem adel_keys (n : Int) : ∀ (ms : List (Int × Nat)), ((adel n ms).map Prod.fst).Sublist (ms.map Prod.fst)
  | [] => by simp [adel]
  | p :: r => by
    unfold adel
    split
    · simp
    · simp only [List.map_cons]
      exact (adel_keys n r).cons_cons _
theorem aget_del {n : Int} : ∀ {ms : List (Int × Nat)}, (ms.map Prod.fst).Nodup → ∀ m, aget m (adel n ms) = if n = m then none else aget m ms
  | [], _, m => by simp [adel, aget]
  | p :: r, hn, m => by
    rw [List.map_cons, List.nodup_cons] at hn
    have ih := aget_del (n := n) hn.2 m
    unfold adel
    by_cases h : p.1 = n
    · rw [if_pos h]
      by_cases hm : n = m
      · subst hm
        rw [if_pos rfl, aget_none, ← h]
        exact hn.1
      · rw [if_neg hm]
        simp only [aget]
        rw [if_neg (fun e => hm (h ▸ e))]
    · rw [if_neg h]
      simp only [aget, ih]
      by_cases hm : n = m
      · subst hm
        simp [h]
      · simp [hm]
theorem aget_app (m n : Int) (v : Nat) : ∀ ms : List (Int × Nat), aget m (ms ++ [(n, v)]) = match aget m ms with | some j => some j | none => if n = m then some v else none
  | [] => by simp [aget]
  | p :: r => by
    have ih := aget_app m n v r
    simp only [List.cons_append, aget]
    split
    · rfl
    · exact ih
theorem MInv.nil : MInv [] [] := ⟨fun n j => by simp [aget], by simp⟩
theorem MInv.no1 {a : List Bk} {ms : List (Int × Nat)} (h : MInv a ms) {t : Td} (hk : t.kd = 11 ∨ t.kd = 12) (hg : aget t.n ms = none) : a.map (clo t) = a := by
  refine List.ext_getElem? fun j => ?_
  rw [List.getElem?_map]
  cases hb : a[j]? with
  | none => rfl
  | some b =>
    rw [Option.map_some]
    congr 1
    unfold clo
    rw [if_neg]
    rintro ⟨h1, h2⟩
    have hi : b.i = t.n := by unfold isE at h2; simp at h2; exact h2.1.symm
    have := (h.m t.n j).2 ⟨b, hb, h1, hi⟩
    rw [hg] at this
    cases this
theorem clo_other {t : Td} (h1 : t.kd ≠ 11) (h2 : t.kd ≠ 12) (a : List Bk) : a.map (clo t) = a := by
  have : clo t = id := by
    funext b
    unfold clo isE
    rw [if_neg (by simp [h1, h2])]; rfl
  rw [this, List.map_id]
theorem MInv.so1 {a : List Bk} {ms : List (Int × Nat)} (h : MInv a ms) {t : Td} (hk : t.kd = 11 ∨ t.kd = 12) {j : Nat} (hg : aget t.n ms = some j) :
    ∃ b, a[j]? = some b ∧ a.map (clo t) = a.set j { b with e := tm t, lv := false } ∧ aget t.n (adel t.n ms) = none ∧ MInv (a.set j { b with e := tm t, lv := false }) (adel t.n ms) := by
  obtain ⟨b, h1, h2, h3⟩ := (h.m t.n j).1 hg
  have hjl : j < a.length := (List.getElem?_eq_some_iff.1 h1).1
  refine ⟨b, h1, ?_, by rw [aget_del h.nd, if_pos rfl], ⟨fun n i => ?_, (adel_keys t.n ms).nodup h.nd⟩⟩
  · refine List.ext_getElem? fun i => ?_
    rw [List.getElem?_map, List.getElem?_set]
    by_cases hij : j = i
    · subst hij
      rw [if_pos rfl, if_pos hjl, h1, Option.map_some]
      congr 1
      unfold clo
      rw [if_pos ⟨h2, by unfold isE; rw [h3]; rcases hk with e | e <;> simp [e]⟩]
    · rw [if_neg hij]
      cases hb : a[i]? with
      | none => rfl
      | some c =>
        rw [Option.map_some]
        congr 1
        unfold clo
        rw [if_neg]
        rintro ⟨h4, h5⟩
        have hi : c.i = t.n := by unfold isE at h5; simp at h5; exact h5.1.symm
        have := (h.m t.n i).2 ⟨c, hb, h4, hi⟩
        rw [hg] at this
        exact hij (Option.some.inj this)
  · rw [aget_del h.nd, List.getElem?_set]
    by_cases hn : t.n = n
    · subst hn
      rw [if_pos rfl]
      constructor
      · intro e; cases e
      · rintro ⟨c, h4, h5, h6⟩
        by_cases hij : j = i
        · rw [if_pos hij, if_pos hjl] at h4
          cases h4
          cases h5
        · rw [if_neg hij] at h4
          have := (h.m t.n i).2 ⟨c, h4, h5, h6⟩
          rw [hg] at this
          exact absurd (Option.some.inj this) hij
    · rw [if_neg hn, h.m n i]
      constructor
      · rintro ⟨c, h4, h5, h6⟩
        have hij : ¬ j = i := by
          rintro rfl
          rw [h1] at h4
          cases h4
          exact hn (h3.symm.trans h6)
        exact ⟨c, by rw [if_neg hij]; exact h4, h5, h6⟩
      · rintro ⟨c, h4, h5, h6⟩
        by_cases hij : j = i
        · rw [if_pos hij, if_pos hjl] at h4
          cases h4
          cases h5
        · rw [if_neg hij] at h4
          exact ⟨c, h4, h5, h6⟩
theorem MInv.add {a : List Bk} {ms : List (Int × Nat)} (h : MInv a ms) (e : Int) (t : Td) (hg : aget t.n ms = Option.none) : MInv (a ++ [newB e t]) (ms ++ [(t.n, a.length)]) := by
  refine ⟨fun n j => ?_, ?_⟩
  · rw [aget_app]
    have hm := h.m n j
    rcases Nat.lt_trichotomy j a.length with hj | hj | hj
    · rw [List.getElem?_append_left hj]
      cases hn : aget n ms with
      | some i => rw [hn] at hm; simpa using hm
      | none =>
        rw [hn] at hm
        simp only
        rw [← hm]
        constructor
        · intro h2
          split at h2
          · cases h2; omega
          · cases h2
        · intro h2; cases h2
    · subst hj
      rw [List.getElem?_append_right (Nat.le_refl _), Nat.sub_self]
      have hno : ¬ ∃ b, a[a.length]? = Option.some b ∧ b.lv = true ∧ b.i = n := by
        rintro ⟨b, hb, _⟩
        rw [List.getElem?_eq_none (Nat.le_refl _)] at hb
        cases hb
      cases hn : aget n ms with
      | some i =>
        have hne : i ≠ a.length := by
          rintro rfl
          exact hno ((h.m n _).1 hn)
        simp only [Option.some.injEq]
        constructor
        · intro h2; exact absurd h2 hne
        · rintro ⟨b, hb, h2, h3⟩
          simp at hb
          subst hb
          simp only [newB] at h3
          rw [h3, hn] at hg
          cases hg
      | none =>
        simp only
        constructor
        · intro h2
          split at h2
          · rename_i hnn
            exact ⟨newB e t, by simp, rfl, hnn⟩
          · cases h2
        · rintro ⟨b, hb, h2, h3⟩
          simp at hb
          subst hb
          have h3 : t.n = n := h3
          rw [if_pos h3]
    · have h1 : (a ++ [newB e t])[j]? = Option.none := List.getElem?_eq_none (by simp; omega)
      have h2 : a[j]? = Option.none := List.getElem?_eq_none (by omega)
      rw [h1]
      rw [h2] at hm
      cases hn : aget n ms with
      | some i => rw [hn] at hm; simpa using hm
      | none =>
        simp only
        constructor
        · intro h3
          split at h3
          · cases h3; omega
          · cases h3
        · rintro ⟨b, hb, _⟩; cases hb
  · rw [List.map_append, List.map_singleton, List.nodup_append]
    refine ⟨h.nd, by simp, fun x hx y hy => ?_⟩
    simp at hy
    subst hy
    rintro rfl
    exact aget_none.1 hg hx
/-- blocks in order of their beginnings -/
def leB (a b : Bk) : Bool := decide (a.f ≤ b.f)
theorem leB_ord : Ordr leB := ⟨fun h1 h2 => by unfold leB at *; simp at *; omega, fun a b => by unfold leB; simp; omega⟩
theorem leR_ord : Ordr leR := ⟨fun h1 h2 => by unfold leR at *; simp at *; omega, fun a b => by unfold leR; simp; omega⟩
theorem leR_row (a b : Bk) : leR (bRow a) (bRow b) = leB a b := rfl
theorem putS_rows (b : Bk) : ∀ s : List Bk, putS leR (bRow b) (bRows s) = bRows (putS leB b s)
  | [] => rfl
  | x :: s => by
    have ih := putS_rows b s
    simp only [bRows, List.map_cons] at ih ⊢
    unfold putS
    rw [leR_row]
    split
    · rw [List.map_cons, ← ih]
    · rfl
theorem srtS_rows (l : List Bk) : srtS leR (bRows l) = bRows (srtS leB l) := by
  suffices h : ∀ (l s : List Bk), (bRows l).foldl (fun s b => putS leR b s) (bRows s) = bRows (l.foldl (fun s b => putS leB b s) s) from h l []
  intro l
  induction l with
  | nil => intro s; rfl
  | cons b l ih =>
    intro s
    have e : bRows (b :: l) = bRow b :: bRows l := rfl
    rw [e, List.foldl_cons, List.foldl_cons, putS_rows, ih]
def keepB (b : Bk) : Bool := decide (b.f < b.e)
theorem kept_rows (l : List Bk) : kept (bRows l) = bRows (l.filter keepB) := by
  unfold kept bRows
  rw [List.filter_map]
  congr 1
  refine List.filter_congr fun b _ => ?_
  show (!(decide (b.e ≤ b.f))) = decide (b.f < b.e)
  by_cases h : b.e ≤ b.f
  · have : ¬ b.f < b.e := by omega
    simp [h, this]
  · have : b.f < b.e := by omega
    simp [h, this]
/-- the blocks of a list of events -/
def ofB (l : List Td) (e : Int) : List Bk := srtS leB ((allB (endM l e) l).filter keepB)
theorem cmp33 : Cmp 33 OkR leR := ⟨leR_ord, fun r h => by
    obtain ⟨i, t, s, f, e, p, lv, rfl, h1, h2⟩ := h
    exact ⟨_, _, _, _, _, _, _, rfl, ⟨rfl, rfl, rfl, rfl, rfl, h1, rfl⟩, rfl, rfl, rfl, rfl, rfl, h2, rfl⟩, fun r s hr hs => ⟨_, f33 hr hs, by
    rw [cmpZ_lt]
    unfold leR
    simp⟩⟩
end Go.Proofs.Ytalmhggbdfjalaa
