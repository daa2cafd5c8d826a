/- slices.SortFunc of indices as a given function upon the caller's own slice. -/
import Derived.Test.YtkodjmlhmpokoaaGc
import Derived.Test.YtkodjmlhmpokoaaSc
namespace Go.Proofs.Ytkodjmlhmpokoaa
open Go Go.RowKit Go.Sort Go.Lib
set_option linter.unusedVariables false
set_option linter.unusedSectionVars false
set_option linter.unusedSimpArgs false

abbrev Sp := Int × Int
def spOf : List (List PV) → Option (List Sp)
  | [] => some []
  | [.int .i64 a, .int .i64 b] :: r => match spOf r with
    | some l => some ((a, b) :: l)
    | none => none
  | _ => none
def spRows (l : List Sp) : List (List PV) := l.map fun s => [.int .i64 s.1, .int .i64 s.2]
theorem spOf_eq : ∀ {rows : List (List PV)} {l : List Sp}, spOf rows = some l → rows = spRows l
  | [], l, h => by simp [spOf] at h; subst h; rfl
  | [.int .i64 a, .int .i64 b] :: r, l, h => by
    simp only [spOf] at h
    split at h
    · rename_i q hq
      cases h
      rw [spOf_eq hq]; rfl
    · cases h
  | [] :: r, l, h => by simp [spOf] at h
  | [p] :: r, l, h => by simp [spOf] at h
  | (p :: q :: t :: u) :: r, l, h => by simp [spOf] at h
theorem spOf_rows (l : List Sp) : spOf (spRows l) = some l := by
  induction l with
  | nil => rfl
  | cons z l ih => simp only [spRows, List.map_cons, spOf] at ih ⊢; rw [ih]
/-- indices of a list -/
def finOf (n : Nat) : List (List PV) → Option (List (_root_.Fin n))
  | [] => some []
  | [.int .i64 z] :: r => if h : 0 ≤ z ∧ z.toNat < n then match finOf n r with
      | some d => some (⟨z.toNat, h.2⟩ :: d)
      | none => none
    else none
  | _ => none
def encF {n : Nat} (x : _root_.Fin n) : Value := .int .i64 (x.val : Int)
def finRows {n : Nat} (d : List (_root_.Fin n)) : List (List PV) := d.map fun x => [.int .i64 (x.val : Int)]
theorem finOf_eq {n : Nat} : ∀ {rows : List (List PV)} {d : List (_root_.Fin n)}, finOf n rows = some d → rows = finRows d
  | [], d, h => by simp [finOf] at h; subst h; rfl
  | [.int .i64 z] :: r, d, h => by
    simp only [finOf] at h
    split at h
    · rename_i hz
      split at h
      · rename_i q hq
        cases h
        rw [finOf_eq hq]
        have : ((z.toNat : Nat) : Int) = z := by omega
        simp [finRows, this]
      · cases h
    · cases h
  | [] :: r, d, h => by simp [finOf] at h
  | (p :: q :: t) :: r, d, h => by simp [finOf] at h
theorem finOf_rows {n : Nat} (d : List (_root_.Fin n)) : finOf n (finRows d) = some d := by
  induction d with
  | nil => rfl
  | cons x d ih =>
    simp only [finRows, List.map_cons, finOf] at ih ⊢
    have h1 : (0 : Int) ≤ (x.val : Int) ∧ ((x.val : Int)).toNat < n := ⟨by omega, by have := x.isLt; omega⟩
    rw [dif_pos h1, ih]
    simp
/-- the order of the indices -/
def kF (l : List Sp) (x : _root_.Fin l.length) : Int := (l.get x).1
def kT (l : List Sp) (x : _root_.Fin l.length) : Int := (l.get x).2
def kI (l : List Sp) (x : _root_.Fin l.length) : Int := (x.val : Int)
def cfI (l : List Sp) (x y : _root_.Fin l.length) : Int := or3 (Lib.compareInt (kF l x) (kF l y)) (Lib.compareInt (kT l x) (kT l y)) (Lib.compareInt (kI l x) (kI l y))
def ltI (l : List Sp) (x y : _root_.Fin l.length) : Prop := kF l x < kF l y ∨ (kF l x = kF l y ∧ (kT l x < kT l y ∨ (kT l x = kT l y ∧ kI l x < kI l y)))
instance (l : List Sp) (x y : _root_.Fin l.length) : Decidable (ltI l x y) := by unfold ltI; infer_instance
theorem cmp_cases (a b : Int) : (Lib.compareInt a b = -1 ∧ a < b) ∨ (Lib.compareInt a b = 0 ∧ a = b) ∨ (Lib.compareInt a b = 1 ∧ b < a) := by
  unfold Lib.compareInt
  by_cases h1 : a < b
  · simp [h1]
  · by_cases h2 : b < a
    · simp [h1, h2]
    · have : a = b := by omega
      simp [this]
theorem or3_lt (a a' b b' i j : Int) : or3 (Lib.compareInt a a') (Lib.compareInt b b') (Lib.compareInt i j) < 0 ↔ (a < a' ∨ (a = a' ∧ (b < b' ∨ (b = b' ∧ i < j)))) := by
  have h1 := cmp_cases a a'
  have h2 := cmp_cases b b'
  have h3 := cmp_cases i j
  generalize Lib.compareInt a a' = x at *
  generalize Lib.compareInt b b' = y at *
  generalize Lib.compareInt i j = z at *
  unfold or3
  split
  · omega
  · split <;> omega
theorem cfI_lt (l : List Sp) (x y : _root_.Fin l.length) : ltOf (cfI l) x y = decide (ltI l x y) := by
  unfold ltOf cfI ltI
  exact decide_eq_decide.2 (or3_lt _ _ _ _ _ _)
theorem swoI (l : List Sp) : SWO (ltOf (cfI l)) where
  irrefl x := by rw [cfI_lt, decide_eq_false_iff_not]; unfold ltI; omega
  trans x y z h1 h2 := by
    rw [cfI_lt, decide_eq_true_eq] at *
    unfold ltI at *
    omega
  ntrans x y z h1 h2 := by
    rw [cfI_lt, decide_eq_false_iff_not] at *
    unfold ltI at *
    omega
def srtI (l : List Sp) (d : List (_root_.Fin l.length)) : List (_root_.Fin l.length) := if h : 0 < l.length then
    haveI : Inhabited (_root_.Fin l.length) := ⟨⟨0, h⟩⟩
    (pdq (ltOf (cfI l)) d.toArray 0 d.toArray.size (Lib.bitLen d.toArray.size) true true).toList
  else d
end Go.Proofs.Ytkodjmlhmpokoaa
