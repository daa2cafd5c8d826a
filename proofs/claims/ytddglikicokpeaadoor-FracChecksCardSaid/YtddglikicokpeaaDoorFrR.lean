/- Fractions as rational numbers. -/
import Derived.Test.YtddglikicokpeaaDoorFrM
namespace Go.Proofs.YtddglikicokpeaaDoor
set_option linter.unusedVariables false
set_option linter.unusedSimpArgs false

def R (a : Int × Int) : Rat := mkRat a.1 a.2.toNat
def toF (q : Rat) : (Int × Int) × Bool := if q.num.natAbs ≤ 4611686018427387904 ∧ q.den ≤ 1000000000000000 then ((q.num, (q.den : Int)), true) else ((0, 0), false)
theorem sgn_abs (neg : Bool) (n : Nat) : (sgn neg n).natAbs = n := by unfold sgn; cases neg <;> simp
theorem made_toF {neg : Bool} {n d : Nat} (hd : 0 < d) : made neg n d = toF (mkRat (sgn neg n) d) := by
  have hd0 : ¬ d = 0 := by omega
  have h1 : (mkRat (sgn neg n) d).num = sgn neg (n / Nat.gcd n d) := by
    rw [Rat.num_mkRat, if_neg hd0, sgn_abs, Nat.gcd_comm d n]
    unfold sgn
    cases neg
    · simp
    · simp only [if_true]
      rw [Int.neg_ediv_of_dvd (Int.natCast_dvd_natCast.2 (Nat.gcd_dvd_left n d))]
      simp
  have h2 : (mkRat (sgn neg n) d).den = d / Nat.gcd n d := by
    rw [Rat.den_mkRat, if_neg hd0, sgn_abs, Nat.gcd_comm d n]
  unfold made outF toF
  rw [h1, h2, sgn_abs]
theorem R_num {a : Int × Int} (h : validF a) : (R a).num = a.1 ∧ ((R a).den : Int) = a.2 := by
  obtain ⟨h1, h2, h3, h4, h5⟩ := h
  have hd0 : ¬ a.2.toNat = 0 := by omega
  have hg : Nat.gcd a.2.toNat a.1.natAbs = 1 := by rw [Nat.gcd_comm, ← h5]; congr 1; omega
  unfold R
  rw [Rat.num_mkRat, Rat.den_mkRat, if_neg hd0, if_neg hd0, hg]
  simp
  omega
theorem toF_R {a : Int × Int} (h : validF a) : toF (R a) = (a, true) := by
  obtain ⟨e1, e2⟩ := R_num h
  obtain ⟨h1, h2, h3, h4, h5⟩ := h
  unfold toF
  rw [if_pos ⟨by rw [e1]; omega, by omega⟩, e1, e2]
theorem toF_ok {q : Rat} (h : (toF q).2 = true) : validF (toF q).1 ∧ R (toF q).1 = q ∧ toF q = ((q.num, (q.den : Int)), true) := by
  unfold toF at h ⊢
  split
  · rename_i hc
    have hp := q.den_pos
    refine ⟨⟨by show (1 : Int) ≤ q.den; omega, by show (q.den : Int) ≤ _; omega, by show _ ≤ q.num; omega, by show q.num ≤ _; omega, by simpa using q.reduced⟩, ?_, rfl⟩
    unfold R
    simp [Rat.mkRat_self]
  · rename_i hc
    rw [if_neg hc] at h
    cases h
theorem toF_bad {q : Rat} (h : (toF q).2 = false) : toF q = ((0, 0), false) := by
  unfold toF at h ⊢
  split
  · rename_i hc; rw [if_pos hc] at h; cases h
  · rfl
/-- the sum, the difference, the product -/
def addS (a b : Int × Int) : (Int × Int) × Bool := if validF a ∧ validF b then toF (R a + R b) else ((0, 0), false)
def negS (a : Int × Int) : Int × Int := (-a.1, a.2)
def subS (a b : Int × Int) : (Int × Int) × Bool := if validF b then addS a (negS b) else ((0, 0), false)
def mulS (a b : Int × Int) : (Int × Int) × Bool := if validF a ∧ validF b then toF (R a * R b) else ((0, 0), false)
def usual (a : Int × Int) : Int × Int := if validF a then a else (0, 1)
def sgI (z : Int) : Int := if z < 0 then -1 else if z = 0 then 0 else 1
def cmpS (a b : Int × Int) : Int := sgI ((usual a).1 * (usual b).2 - (usual b).1 * (usual a).2)
theorem valid_neg {a : Int × Int} (h : validF a) : validF (negS a) := by
  obtain ⟨h1, h2, h3, h4, h5⟩ := h
  exact ⟨h1, h2, by show _ ≤ -a.1; omega, by show -a.1 ≤ _; omega, by simpa [negS] using h5⟩
theorem R_neg (a : Int × Int) : R (negS a) = - R a := by simp [R, negS, Rat.neg_mkRat]
theorem valid_usual (a : Int × Int) : validF (usual a) := by
  unfold usual
  split
  · assumption
  · exact ⟨by decide, by decide, by decide, by decide, by decide⟩
theorem mk_add {a b : Int × Int} (ha : validF a) (hb : validF b) : mkRat (a.1 * b.2 + b.1 * a.2) (a.2.toNat * b.2.toNat) = R a + R b := by
  have h1 : a.2.toNat ≠ 0 := by have := ha.1; omega
  have h2 : b.2.toNat ≠ 0 := by have := hb.1; omega
  unfold R
  rw [Rat.mkRat_add_mkRat _ _ h1 h2]
  congr 2
  · congr 1
    have := hb.1; omega
  · congr 1
    have := ha.1; omega
theorem mk_mul (a b : Int × Int) : mkRat (a.1 * b.1) (a.2.toNat * b.2.toNat) = R a * R b := by
  unfold R
  rw [Rat.mkRat_mul_mkRat]

theorem addS_comm (a b : Int × Int) : addS a b = addS b a := by
  unfold addS
  by_cases h1 : validF a <;> by_cases h2 : validF b <;> simp [h1, h2, Rat.add_comm]
theorem mulS_comm (a b : Int × Int) : mulS a b = mulS b a := by
  unfold mulS
  by_cases h1 : validF a <;> by_cases h2 : validF b <;> simp [h1, h2, Rat.mul_comm]
theorem addS_ok {a b : Int × Int} (h : (addS a b).2 = true) : validF a ∧ validF b ∧ validF (addS a b).1 ∧ R (addS a b).1 = R a + R b := by
  unfold addS at h ⊢
  split
  · rename_i hc
    rw [if_pos hc] at h
    obtain ⟨h1, h2, _⟩ := toF_ok h
    exact ⟨hc.1, hc.2, h1, h2⟩
  · rename_i hc
    rw [if_neg hc] at h
    cases h
theorem mulS_ok {a b : Int × Int} (h : (mulS a b).2 = true) : validF a ∧ validF b ∧ validF (mulS a b).1 ∧ R (mulS a b).1 = R a * R b := by
  unfold mulS at h ⊢
  split
  · rename_i hc
    rw [if_pos hc] at h
    obtain ⟨h1, h2, _⟩ := toF_ok h
    exact ⟨hc.1, hc.2, h1, h2⟩
  · rename_i hc
    rw [if_neg hc] at h
    cases h
theorem addS_val {a b : Int × Int} (ha : validF a) (hb : validF b) : addS a b = toF (R a + R b) := if_pos ⟨ha, hb⟩
theorem mulS_val {a b : Int × Int} (ha : validF a) (hb : validF b) : mulS a b = toF (R a * R b) := if_pos ⟨ha, hb⟩
theorem subS_val {a b : Int × Int} (ha : validF a) (hb : validF b) : subS a b = toF (R a - R b) := by
  unfold subS
  rw [if_pos hb, addS_val ha (valid_neg hb), R_neg, Rat.sub_eq_add_neg]
/-- Sub undoes Add -/
theorem sub_add {a b : Int × Int} (h : (addS a b).2 = true) : subS (addS a b).1 b = (a, true) := by
  obtain ⟨h1, h2, h3, h4⟩ := addS_ok h
  rw [subS_val h3 h2, h4, Rat.sub_eq_add_neg, Rat.add_assoc, Rat.add_neg_cancel, Rat.add_zero, toF_R h1]
theorem add_assocS {a b c : Int × Int} (h1 : (addS a b).2 = true) (h2 : (addS b c).2 = true) : addS (addS a b).1 c = addS a (addS b c).1 := by
  obtain ⟨a1, a2, a3, a4⟩ := addS_ok h1
  obtain ⟨b1, b2, b3, b4⟩ := addS_ok h2
  rw [addS_val a3 b2, addS_val a1 b3, a4, b4, Rat.add_assoc]
theorem mul_addS {a b c : Int × Int} (h1 : (addS b c).2 = true) (h2 : (mulS a b).2 = true) (h3 : (mulS a c).2 = true) : mulS a (addS b c).1 = addS (mulS a b).1 (mulS a c).1 := by
  obtain ⟨a1, a2, a3, a4⟩ := addS_ok h1
  obtain ⟨b1, b2, b3, b4⟩ := mulS_ok h2
  obtain ⟨c1, c2, c3, c4⟩ := mulS_ok h3
  rw [mulS_val b1 a3, addS_val b3 c3, a4, b4, c4, Rat.mul_add]

/-- the order -/
theorem cmp_rat (a b : Int × Int) : (cmpS a b = -1 ↔ R (usual a) < R (usual b)) ∧ (cmpS a b = 0 ↔ R (usual a) = R (usual b)) ∧ (cmpS a b = 1 ↔ R (usual b) < R (usual a)) ∧ (cmpS a b = -1 ∨ cmpS a b = 0 ∨ cmpS a b = 1) := by
  have va := valid_usual a
  have vb := valid_usual b
  obtain ⟨a1, a2⟩ := R_num va
  obtain ⟨b1, b2⟩ := R_num vb
  have hlt : R (usual a) < R (usual b) ↔ (usual a).1 * (usual b).2 < (usual b).1 * (usual a).2 := by rw [Rat.lt_iff, a1, a2, b1, b2]
  have hgt : R (usual b) < R (usual a) ↔ (usual b).1 * (usual a).2 < (usual a).1 * (usual b).2 := by rw [Rat.lt_iff, a1, a2, b1, b2]
  have heq : R (usual a) = R (usual b) ↔ (usual a).1 * (usual b).2 = (usual b).1 * (usual a).2 := by
    constructor
    · intro h
      have x1 : ¬ R (usual a) < R (usual b) := by rw [h]; exact Rat.lt_irrefl
      have x2 : ¬ R (usual b) < R (usual a) := by rw [h]; exact Rat.lt_irrefl
      rw [hlt] at x1
      rw [hgt] at x2
      omega
    · intro h
      have x1 : ¬ R (usual a) < R (usual b) := by rw [hlt]; omega
      have x2 : ¬ R (usual b) < R (usual a) := by rw [hgt]; omega
      exact Rat.le_antisymm (Rat.not_lt.1 x2) (Rat.not_lt.1 x1)
  rw [hlt, hgt, heq]
  unfold cmpS sgI
  generalize (usual a).1 * (usual b).2 = x
  generalize (usual b).1 * (usual a).2 = y
  split
  · omega
  · split <;> omega
end Go.Proofs.YtddglikicokpeaaDoor
