/- memory.Check: what it asks. -/
import Derived.Test.YtalmhggbdfjalaaNm
namespace Go.Proofs.Ytalmhggbdfjalaa
open Go Go.RowKit
set_option linter.unusedVariables false
set_option linter.unusedSectionVars false
set_option linter.unusedSimpArgs false
set_option maxHeartbeats 4000000

def rngBad (b : Bk) : Prop := b.i < 0 ∨ 1000000000000000 < b.i ∨ b.t < 0 ∨ 1000000000000000 < b.t ∨ b.s < 1 ∨ 1000000000000 < b.s ∨ b.f < 0 ∨ b.e ≤ b.f ∨ 1000000000000 < b.e
instance (b : Bk) : Decidable (rngBad b) := by unfold rngBad; infer_instance
def fAt (l : List Bk) (k : Nat) : Int := match l[k]? with
  | some b => b.f
  | none => 0
def twB (l : List Bk) (k : Nat) (b : Bk) : Bool := (l.take k).any fun c => decide (c.i = b.i) && decide (b.f < c.e)
def errAt (l : List Bk) (k : Nat) (b : Bk) : Int := if rngBad b then 2 else if framesE b.st ≠ 0 then framesE b.st else if 0 < k ∧ b.f < fAt l (k - 1) then 11 else if twB l k b = true then 4 else 0
def errZ (l : List Bk) (k : Nat) : Int := match l[k]? with
  | some b => errAt l k b
  | none => 0
def chkL (l : List Bk) : Int := match (List.range l.length).find? fun k => decide (errZ l k ≠ 0) with
  | some k => errZ l k
  | none => 0
theorem chkL_err {l : List Bk} {k : Nat} (hk : k < l.length) (h : errZ l k ≠ 0) (hb : ∀ j, j < k → errZ l j = 0) : chkL l = errZ l k := by
  have : (List.range l.length).find? (fun k => decide (errZ l k ≠ 0)) = some k := by
    rw [List.find?_range_eq_some]
    refine ⟨by simpa using h, by simpa using hk, fun j hj => ?_⟩
    simp [hb j hj]
  unfold chkL
  rw [this]
theorem chkL_ok {l : List Bk} (h : ∀ j, j < l.length → errZ l j = 0) : chkL l = 0 := by
  have : (List.range l.length).find? (fun k => decide (errZ l k ≠ 0)) = none := by
    rw [List.find?_range_eq_none]
    intro j hj
    simp [h j hj]
  unfold chkL
  rw [this]
theorem chkL_all {l : List Bk} (h : chkL l = 0) : ∀ j, j < l.length → errZ l j = 0 := by
  intro j hj
  by_cases hex : ∃ k, k < l.length ∧ errZ l k ≠ 0
  · exfalso
    obtain ⟨k, hk, he, hb⟩ : ∃ k, k < l.length ∧ errZ l k ≠ 0 ∧ ∀ j, j < k → errZ l j = 0 := by
      obtain ⟨k, hk⟩ := hex
      induction k using Nat.strongRecOn with
      | ind k ih =>
        by_cases h2 : ∃ j, j < k ∧ errZ l j ≠ 0
        · obtain ⟨j, h3, h4⟩ := h2
          exact ih j h3 ⟨by omega, h4⟩
        · refine ⟨k, hk.1, hk.2, fun j h3 => ?_⟩
          by_cases h4 : errZ l j = 0
          · exact h4
          · exact absurd ⟨j, h3, h4⟩ h2
    rw [chkL_err hk he hb] at h
    exact he h
  · by_cases h4 : errZ l j = 0
    · exact h4
    · exact absurd ⟨j, hj, h4⟩ hex
/-- the last ends -/
def nRows (ms : List (Int × Int)) : List (List PV) := ms.map fun p => [.int .i64 p.1, .int .i64 p.2]
def nget (n : Int) : List (Int × Int) → Option Int
  | [] => none
  | p :: r => if p.1 = n then some p.2 else nget n r
def nput (n : Int) (t : Int) : List (Int × Int) → List (Int × Int)
  | [] => [(n, t)]
  | p :: r => if p.1 = n then (n, t) :: r else p :: nput n t r
def nidx (n : Int) : List (Int × Int) → Nat
  | [] => 0
  | p :: r => if p.1 = n then 0 else nidx n r + 1
theorem nmfind (n : Int) : ∀ (ms : List (Int × Int)) (i : Nat), mfind [.i] false [.int .i64 n] (nRows ms) i = match nget n ms with | some t => some (some (i + nidx n ms, .int .i64 t)) | none => some none
  | [], i => by simp [nRows, mfind, nget]
  | (k, t) :: r, i => by
    have ih := nmfind n r (i + 1)
    simp only [nRows, List.map_cons] at ih ⊢
    simp only [mfind, keyC, Bool.false_eq_true, if_false, eqL, eq1, if_true, Bool.and_true, nget, nidx]
    by_cases h : n = k
    · subst h; simp
    · have h' : (n == k) = false := by simpa using h
      have h2 : ¬ k = n := fun e => h e.symm
      simp only [h', ih, h2, if_false]
      split
      · rename_i t' ht
        congr 3
        omega
      · rfl
theorem nmfind_in {n : Int} {ms : List (Int × Int)} {t : Int} (h : nget n ms = some t) : mfind [.i] false [.int .i64 n] (nRows ms) 0 = some (some (nidx n ms, .int .i64 t)) := by rw [nmfind, h]; simp
theorem nmfind_out {n : Int} {ms : List (Int × Int)} (h : nget n ms = none) : mfind [.i] false [.int .i64 n] (nRows ms) 0 = some none := by rw [nmfind, h]
theorem nset {n t s : Int} : ∀ {ms : List (Int × Int)}, nget n ms = some s → (nRows ms).set (nidx n ms) [.int .i64 n, .int .i64 t] = nRows (nput n t ms)
  | [], h => by simp [nget] at h
  | (k, x) :: r, h => by
    simp only [nget] at h
    by_cases hk : k = n
    · simp [nRows, nidx, nput, hk]
    · rw [if_neg hk] at h
      have ih := nset (t := t) h
      simp only [nRows] at ih
      simp [nRows, nidx, nput, hk, ih]
theorem nadd {n t : Int} : ∀ {ms : List (Int × Int)}, nget n ms = none → nRows ms ++ [[.int .i64 n, .int .i64 t]] = nRows (nput n t ms)
  | [], h => by simp [nRows, nput]
  | (k, x) :: r, h => by
    simp only [nget] at h
    by_cases hk : k = n
    · rw [if_pos hk] at h; cases h
    · rw [if_neg hk] at h
      have ih := nadd (t := t) h
      simp only [nRows] at ih
      simp [nRows, nput, hk, ih]
theorem nget_put (n m : Int) (t : Int) : ∀ ms : List (Int × Int), nget m (nput n t ms) = if n = m then some t else nget m ms
  | [] => by simp [nput, nget]
  | (k, x) :: r => by
    have ih := nget_put n m t r
    simp only [nput]
    by_cases hk : k = n
    · rw [if_pos hk]
      simp only [nget]
      by_cases hm : n = m
      · simp [hm]
      · have : ¬ k = m := fun e => hm (hk ▸ e)
        simp [hm, this]
    · rw [if_neg hk]
      simp only [nget, ih]
      by_cases hm : n = m
      · have : ¬ k = m := fun e => hk (e.trans hm.symm)
        simp [hm, this]
      · simp [hm]
def S14 (l : List Bk) (k : Nat) (ms : List (Int × Int)) : St := ⟨[.sl false 7 (bRows l), .top, .top, .mp 0 0, .top, .top, .top, .top, .sl false 7 (bRows l), .int .i64 l.length, .int .i64 k] ++ List.replicate 89 .top, [some ⟨0, mapE, true, nRows ms⟩]⟩
def R14 (z : Int) (s : St) : Prop := s.sl[2]?.getD .top = .int .i64 z
end Go.Proofs.Ytalmhggbdfjalaa
