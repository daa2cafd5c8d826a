/- Fractions in lowest terms. -/
import Derived.KernelRfl
namespace Go.Proofs.YtddglikicokpeaaDoor
set_option linter.unusedVariables false
set_option linter.unusedSimpArgs false

def sgn (neg : Bool) (p : Nat) : Int := if neg then -(p : Int) else p
/-- what comes out: a fraction within the limits, or none -/
def outF (neg : Bool) (p q : Nat) : (Int × Int) × Bool := if p ≤ 4611686018427387904 ∧ q ≤ 1000000000000000 then ((sgn neg p, (q : Int)), true) else ((0, 0), false)
def made (neg : Bool) (n d : Nat) : (Int × Int) × Bool := outF neg (n / Nat.gcd n d) (d / Nat.gcd n d)
def validF (a : Int × Int) : Prop := 1 ≤ a.2 ∧ a.2 ≤ 1000000000000000 ∧ -4611686018427387904 ≤ a.1 ∧ a.1 ≤ 4611686018427387904 ∧ Nat.gcd a.1.natAbs a.2.natAbs = 1
instance (a : Int × Int) : Decidable (validF a) := by unfold validF; infer_instance

theorem lowest {n d p q : Nat} (hd : 0 < d) (hq : 0 < q) (hc : Nat.gcd p q = 1) (hx : n * q = p * d) : n / Nat.gcd n d = p ∧ d / Nat.gcd n d = q := by
  have hg : 0 < Nat.gcd n d := Nat.gcd_pos_of_pos_right n hd
  obtain ⟨n', hn⟩ := Nat.gcd_dvd_left n d
  obtain ⟨d', hd'⟩ := Nat.gcd_dvd_right n d
  have hco : Nat.gcd n' d' = 1 := by
    have h := Nat.gcd_mul_left (Nat.gcd n d) n' d'
    rw [← hn, ← hd'] at h
    have : Nat.gcd n d * 1 = Nat.gcd n d * Nat.gcd n' d' := by omega
    exact (Nat.eq_of_mul_eq_mul_left hg this).symm
  have hx' : n' * q = p * d' := by
    have h1 : Nat.gcd n d * (n' * q) = Nat.gcd n d * (p * d') := by
      calc Nat.gcd n d * (n' * q) = (Nat.gcd n d * n') * q := by rw [Nat.mul_assoc]
        _ = n * q := by rw [← hn]
        _ = p * d := hx
        _ = p * (Nat.gcd n d * d') := by rw [← hd']
        _ = Nat.gcd n d * (p * d') := by rw [Nat.mul_left_comm]
    exact Nat.eq_of_mul_eq_mul_left hg h1
  have e1 : n / Nat.gcd n d = n' := Nat.div_eq_of_eq_mul_right hg hn
  have e2 : d / Nat.gcd n d = d' := Nat.div_eq_of_eq_mul_right hg hd'
  have hpn : p ∣ n' := (show Nat.Coprime p q from hc).dvd_of_dvd_mul_right ⟨d', hx'⟩
  have hnp : n' ∣ p := (show Nat.Coprime n' d' from hco).dvd_of_dvd_mul_right ⟨q, hx'.symm⟩
  have hqd : q ∣ d' := (show Nat.Coprime q p from (Nat.gcd_comm q p).trans hc).dvd_of_dvd_mul_left ⟨n', by rw [← hx', Nat.mul_comm]⟩
  have hdq : d' ∣ q := (show Nat.Coprime d' n' from (Nat.gcd_comm d' n').trans hco).dvd_of_dvd_mul_left ⟨p, by rw [hx', Nat.mul_comm]⟩
  exact ⟨e1.trans (Nat.dvd_antisymm hnp hpn), e2.trans (Nat.dvd_antisymm hdq hqd)⟩
theorem made_eq {neg : Bool} {n d p q : Nat} (hd : 0 < d) (hq : 0 < q) (hc : Nat.gcd p q = 1) (hx : n * q = p * d) : made neg n d = outF neg p q := by
  obtain ⟨h1, h2⟩ := lowest hd hq hc hx
  unfold made
  rw [h1, h2]
theorem div_gcd {n d : Nat} (hd : 0 < d) : Nat.gcd (n / Nat.gcd n d) (d / Nat.gcd n d) = 1 := Nat.Coprime.eq_1 _ _ ▸ Nat.coprime_div_gcd_div_gcd (Nat.gcd_pos_of_pos_right n hd)

/-- the sum: what is common is taken out before it is multiplied -/
theorem add_low (n1 n2 : Int) (d1 d2 : Nat) (h1 : 0 < d1) (h2 : 0 < d2) (c1 : Nat.gcd n1.natAbs d1 = 1) (c2 : Nat.gcd n2.natAbs d2 = 1) (S : Int) (hS : S = n1 * ((d2 / Nat.gcd d1 d2 : Nat) : Int) + n2 * ((d1 / Nat.gcd d1 d2 : Nat) : Int)) (h : Nat) (hh : h = Nat.gcd S.natAbs (Nat.gcd d1 d2)) :
    Nat.gcd (S.natAbs / h) (d1 / Nat.gcd d1 d2 * (d2 / h)) = 1 ∧ (n1 * d2 + n2 * d1).natAbs * (d1 / Nat.gcd d1 d2 * (d2 / h)) = S.natAbs / h * (d1 * d2) ∧ (n1 * d2 + n2 * d1) = (Nat.gcd d1 d2 : Nat) * S ∧ 0 < h ∧ 0 < d1 / Nat.gcd d1 d2 * (d2 / h) := by
  have hg : 0 < Nat.gcd d1 d2 := Nat.gcd_pos_of_pos_left d2 h1
  obtain ⟨v, hv⟩ := Nat.gcd_dvd_left d1 d2
  obtain ⟨u, hu⟩ := Nat.gcd_dvd_right d1 d2
  have huv : Nat.gcd v u = 1 := by
    have h := Nat.gcd_mul_left (Nat.gcd d1 d2) v u
    rw [← hv, ← hu] at h
    have : Nat.gcd d1 d2 * 1 = Nat.gcd d1 d2 * Nat.gcd v u := by omega
    exact (Nat.eq_of_mul_eq_mul_left hg this).symm
  generalize hG : Nat.gcd d1 d2 = g at *
  have ev : d1 / g = v := by rw [hv]; exact Nat.mul_div_cancel_left _ hg
  have eu : d2 / g = u := by rw [hu]; exact Nat.mul_div_cancel_left _ hg
  rw [ev, eu] at hS
  rw [ev]
  have hh0 : 0 < h := by rw [hh]; exact Nat.gcd_pos_of_pos_right _ hg
  have hhS : h ∣ S.natAbs := by rw [hh]; exact Nat.gcd_dvd_left _ _
  have hhg : h ∣ g := by rw [hh]; exact Nat.gcd_dvd_right _ _
  have hhd : h ∣ d2 := Nat.dvd_trans hhg ⟨u, hu⟩
  have cSv : Nat.gcd S.natAbs v = 1 := by
    have e : Int.gcd S v = Int.gcd (n1 * u) v := by
      rw [hS]; simp [Int.gcd_add_mul_right_left]
    have e2 : Int.gcd (n1 * u) v = Nat.gcd (n1.natAbs * u) v := by simp [Int.gcd, Int.natAbs_mul]
    have e3 : Int.gcd S v = Nat.gcd S.natAbs v := by simp [Int.gcd]
    rw [← e3, e, e2]
    exact Nat.Coprime.mul_left (Nat.Coprime.coprime_dvd_right ⟨g, by rw [hv, Nat.mul_comm]⟩ c1) ((Nat.gcd_comm u v).trans huv)
  have cSu : Nat.gcd S.natAbs u = 1 := by
    have e : Int.gcd S u = Int.gcd (n2 * v) u := by
      rw [hS, Int.add_comm]; simp [Int.gcd_add_mul_right_left]
    have e2 : Int.gcd (n2 * v) u = Nat.gcd (n2.natAbs * v) u := by simp [Int.gcd, Int.natAbs_mul]
    have e3 : Int.gcd S u = Nat.gcd S.natAbs u := by simp [Int.gcd]
    rw [← e3, e, e2]
    exact Nat.Coprime.mul_left (Nat.Coprime.coprime_dvd_right ⟨g, by rw [hu, Nat.mul_comm]⟩ c2) huv
  obtain ⟨p, hp⟩ := hhS
  obtain ⟨w, hw⟩ := hhg
  have ep : S.natAbs / h = p := by rw [hp]; exact Nat.mul_div_cancel_left _ hh0
  have ed : d2 / h = w * u := by rw [hu, hw, Nat.mul_assoc]; exact Nat.mul_div_cancel_left _ hh0
  have hpw : Nat.gcd p w = 1 := by
    have h3 := Nat.gcd_mul_left h p w
    rw [← hp, ← hw, ← hh] at h3
    have : h * 1 = h * Nat.gcd p w := by omega
    exact (Nat.eq_of_mul_eq_mul_left hh0 this).symm
  have hpS : p ∣ S.natAbs := ⟨h, by rw [hp, Nat.mul_comm]⟩
  have hsum : n1 * (d2 : Int) + n2 * d1 = (g : Int) * S := by
    rw [hS, hu, hv]
    simp only [Int.natCast_mul, Int.mul_add]
    congr 1
    · rw [Int.mul_left_comm]
    · rw [Int.mul_left_comm]
  have hv0 : 0 < v := Nat.pos_of_ne_zero (fun e => by subst e; omega)
  have hu0 : 0 < u := Nat.pos_of_ne_zero (fun e => by subst e; omega)
  have hw0 : 0 < w := Nat.pos_of_ne_zero (fun e => by subst e; omega)
  rw [ep, ed]
  refine ⟨?_, ?_, hsum, hh0, Nat.mul_pos hv0 (Nat.mul_pos hw0 hu0)⟩
  · exact Nat.Coprime.mul_right (Nat.Coprime.coprime_dvd_left hpS cSv) (Nat.Coprime.mul_right hpw (Nat.Coprime.coprime_dvd_left hpS cSu))
  · rw [hsum, Int.natAbs_mul, Int.natAbs_natCast, hp, hv, hu, hw]
    simp only [Nat.mul_assoc, Nat.mul_left_comm, Nat.mul_comm]

/-- the product -/
theorem mul_low (m1 m2 d1 d2 : Nat) (h1 : 0 < d1) (h2 : 0 < d2) (c1 : Nat.gcd m1 d1 = 1) (c2 : Nat.gcd m2 d2 = 1) :
    Nat.gcd (m1 / Nat.gcd m1 d2 * (m2 / Nat.gcd m2 d1)) (d1 / Nat.gcd m2 d1 * (d2 / Nat.gcd m1 d2)) = 1 ∧ m1 * m2 * (d1 / Nat.gcd m2 d1 * (d2 / Nat.gcd m1 d2)) = m1 / Nat.gcd m1 d2 * (m2 / Nat.gcd m2 d1) * (d1 * d2) ∧ 0 < d1 / Nat.gcd m2 d1 * (d2 / Nat.gcd m1 d2) := by
  have hg : 0 < Nat.gcd m1 d2 := Nat.gcd_pos_of_pos_right _ h2
  have hk : 0 < Nat.gcd m2 d1 := Nat.gcd_pos_of_pos_right _ h1
  have x1 := div_gcd (n := m1) h2
  have x2 := div_gcd (n := m2) h1
  obtain ⟨a, ha⟩ := Nat.gcd_dvd_left m1 d2
  obtain ⟨b, hb⟩ := Nat.gcd_dvd_right m1 d2
  obtain ⟨c, hc⟩ := Nat.gcd_dvd_left m2 d1
  obtain ⟨e, he⟩ := Nat.gcd_dvd_right m2 d1
  generalize Nat.gcd m1 d2 = g at *
  generalize Nat.gcd m2 d1 = k at *
  have ea : m1 / g = a := by rw [ha]; exact Nat.mul_div_cancel_left _ hg
  have eb : d2 / g = b := by rw [hb]; exact Nat.mul_div_cancel_left _ hg
  have ec : m2 / k = c := by rw [hc]; exact Nat.mul_div_cancel_left _ hk
  have ee : d1 / k = e := by rw [he]; exact Nat.mul_div_cancel_left _ hk
  rw [ea, eb] at x1
  rw [ec, ee] at x2
  rw [ea, eb, ec, ee]
  have y1 : Nat.Coprime a e := Nat.Coprime.coprime_dvd_left ⟨g, by rw [ha, Nat.mul_comm]⟩ (Nat.Coprime.coprime_dvd_right ⟨k, by rw [he, Nat.mul_comm]⟩ c1)
  have y2 : Nat.Coprime c b := Nat.Coprime.coprime_dvd_left ⟨k, by rw [hc, Nat.mul_comm]⟩ (Nat.Coprime.coprime_dvd_right ⟨g, by rw [hb, Nat.mul_comm]⟩ c2)
  have hb0 : 0 < b := Nat.pos_of_ne_zero (fun h => by subst h; omega)
  have he0 : 0 < e := Nat.pos_of_ne_zero (fun h => by subst h; omega)
  refine ⟨Nat.Coprime.mul_left (Nat.Coprime.mul_right y1 x1) (Nat.Coprime.mul_right x2 y2), ?_, Nat.mul_pos he0 hb0⟩
  rw [ha, hb, hc, he]
  simp only [Nat.mul_assoc, Nat.mul_left_comm, Nat.mul_comm]
end Go.Proofs.YtddglikicokpeaaDoor
