/- num: Div64. -/
import Derived.Test.YtddglikicokpeaaDoorFrB
namespace Go.Proofs.YtddglikicokpeaaDoor
open Go Go.RowKit
set_option linter.unusedVariables false
set_option linter.unusedSimpArgs false
set_option maxHeartbeats 8000000

theorem loop_stop {σ : Type} {body : St → Option Out} {keep : List Nat} {n0 : Nat} (S : σ → St) (μ : σ → Nat) (I : σ → Prop) (stop : σ → Prop)
    (h : ∀ x, I x → ¬ stop x → ∃ x' s', body (S x) = some (.normal s') ∧ norm keep n0 s' = S x' ∧ I x' ∧ μ x' < μ x) (hs : ∀ x, I x → stop x → ∀ s, body (S x) ≠ some (.normal s))
    {fuel : Nat} (x0 : σ) (hI0 : I x0) (hf : μ x0 < fuel) (s0 : St) (E : Option Out) (hE : evLoop body keep n0 fuel s0 = E) (h0 : norm keep n0 s0 = S x0) : ∃ x, I x ∧ stop x ∧ E = body (S x) := by
  subst hE
  induction fuel generalizing x0 s0 with
  | zero => omega
  | succ f ih =>
    by_cases hst : stop x0
    · refine ⟨x0, hI0, hst, ?_⟩
      rw [evLoop, h0]
      have := hs x0 hI0 hst
      split
      · rename_i s hb; exact absurd hb (this s)
      · rfl
    · obtain ⟨x', s', h1, h2, h3, h4⟩ := h x0 hI0 hst
      rw [evLoop, h0, h1]
      exact ih x' h3 (by omega) s' h2

theorem f66 (x : Nat) (h0 : 0 < x) (hx : x < 18446744073709551616) : ∃ s, evE Dg 66 [.int .u64 x] = some (.int .i64 (s : Nat)) ∧ s ≤ 63 ∧ x * 2 ^ s < 18446744073709551616 ∧ 9223372036854775808 ≤ x * 2 ^ s := by
  obtain ⟨L, h1, h2, h3, h4⟩ := f68 x hx
  obtain ⟨h5, h6⟩ := h4 h0
  have w : IntKind.i64.wrap (64 - (L : Int)) = ((64 - L : Nat) : Int) := by rw [wrap_i64 _ (by omega) (by omega)]; omega
  refine ⟨64 - L, ?_, by omega, ?_, ?_⟩
  · refine evE_intro 1 D66 rfl ?_
    unfold c66
    simp [evCode, evOps, evOne, evOp, evPur, evEff, evPur.chunks, fillP, AOp.isEff, AO.ev, putP, PV.cells, PV.leaf, getB, getM, mapE, iterE, keyC, mapRows, mfind, eq1, eqL, scal, binP, unP, minP, maxP, foldP, PV.lt, PV.lt.ltL, endP, expoAll, expoG, expo, expo.expoL, frIds, frIds.frIdsL, nodupN, kill, cls, clsFuel, resO, RV.get, loadP, evC_p, evC_s, endS, endT, rowsOf, callP, thinL, unfr, unfr.unfrL, PV.noMem, PV.noMem.noMemL, optI, mapO, norm, trimT, trimB, forget, hasN, blksLt, List.set, softChk, softGo, softRd, effTg, rdP, h1, w]
  · have : x * 2 ^ (64 - L) < 2 ^ L * 2 ^ (64 - L) := Nat.mul_lt_mul_of_pos_right h3 (Nat.pow_pos (by omega))
    rw [← Nat.pow_add, show L + (64 - L) = 64 by omega] at this
    exact this
  · have : 2 ^ (L - 1) * 2 ^ (64 - L) ≤ x * 2 ^ (64 - L) := Nat.mul_le_mul_right _ h5
    rw [← Nat.pow_add, show L - 1 + (64 - L) = 63 by omega] at this
    exact this

/-- one digit of a long division -/
theorem dig_end {y1 y0 u d q r : Nat} (hu : q * y1 + r = u) (h : q * y0 ≤ 4294967296 * r + d) : q * (y1 * 4294967296 + y0) ≤ u * 4294967296 + d := by
  subst hu; grind
theorem dig_not {y1 y0 u d q r : Nat} (hu : q * y1 + r = u) (h : ¬ q * y0 ≤ 4294967296 * r + d) : u * 4294967296 + d < q * (y1 * 4294967296 + y0) := by
  subst hu; grind
theorem dig_big {y u d q : Nat} (hu : u < y) (hd : d < 4294967296) (h : 4294967296 ≤ q) : u * 4294967296 + d < q * y := by
  have : 4294967296 * y ≤ q * y := Nat.mul_le_mul_right _ h
  omega
theorem dig_eq {y n q : Nat} (h1 : q * y ≤ n) (h2 : n < (q + 1) * y) : q = n / y := by
  have hy : 0 < y := by
    rcases Nat.eq_zero_or_pos y with h | h
    · subst h; simp at h2
    · exact h
  exact (Nat.div_eq_of_lt_le (by omega) (by simpa using h2)).symm

/-- what holds while a digit is sought -/
structure Dig (y y1 y0 u d : Nat) (x : Nat × Nat) : Prop where
  e : x.1 * y1 + x.2 = u
  b : u * 4294967296 + d < (x.1 + 1) * y
  r : x.2 < 4294967296
  q : x.1 ≤ 4294967297
structure DigC (y y1 y0 u d : Nat) : Prop where
  hy : y1 * 4294967296 + y0 = y
  h0 : y0 < 4294967296
  h1 : y1 < 4294967296
  hh : 2147483648 ≤ y1
  hu : u < y
  hd : d < 4294967296
def tooBig (y0 d : Nat) (x : Nat × Nat) : Prop := 4294967296 ≤ x.1 ∨ ¬ x.1 * y0 ≤ 4294967296 * x.2 + d
def digStop (y1 y0 d : Nat) (x : Nat × Nat) : Prop := ¬ tooBig y0 d x ∨ 4294967296 ≤ x.2 + y1
theorem Dig.first {y y1 y0 u d : Nat} (c : DigC y y1 y0 u d) : Dig y y1 y0 u d (u / y1, u % y1) := by
  have hp : 0 < y1 := by have := c.hh; omega
  have e : u / y1 * y1 + u % y1 = u := by rw [Nat.mul_comm]; exact Nat.div_add_mod u y1
  have hr := Nat.mod_lt u hp
  have hq : u / y1 ≤ 4294967297 := by
    have h1 : u / y1 * y1 ≤ u := by omega
    have h2 := c.hu; have h3 := c.hy; have h4 := c.h0; have h5 := c.hh
    have : u / y1 < 4294967298 := by
      rw [Nat.div_lt_iff_lt_mul hp]; omega
    omega
  refine ⟨e, ?_, by have := c.h1; simp only; omega, hq⟩
  simp only
  -- u * B + d < (q + 1) * y
  have h3 : u + 1 ≤ (u / y1 + 1) * y1 := by rw [Nat.add_mul]; omega
  have h4 : (u + 1) * 4294967296 ≤ (u / y1 + 1) * y1 * 4294967296 := Nat.mul_le_mul_right _ h3
  have h5 : (u / y1 + 1) * y = (u / y1 + 1) * y1 * 4294967296 + (u / y1 + 1) * y0 := by rw [← c.hy, Nat.mul_add, Nat.mul_assoc]
  have h6 := c.hd
  omega
theorem Dig.big {y y1 y0 u d : Nat} (c : DigC y y1 y0 u d) {x : Nat × Nat} (h : Dig y y1 y0 u d x) (ht : tooBig y0 d x) : u * 4294967296 + d < x.1 * y ∧ 1 ≤ x.1 := by
  have : u * 4294967296 + d < x.1 * y := by
    rcases ht with ht | ht
    · exact dig_big c.hu c.hd ht
    · rw [← c.hy]; exact dig_not h.e ht
  refine ⟨this, ?_⟩
  rcases Nat.eq_zero_or_pos x.1 with h0 | h0
  · rw [h0] at this; omega
  · exact h0
theorem Dig.next {y y1 y0 u d : Nat} (c : DigC y y1 y0 u d) {x : Nat × Nat} (h : Dig y y1 y0 u d x) (ht : tooBig y0 d x) (hr : x.2 + y1 < 4294967296) : Dig y y1 y0 u d (x.1 - 1, x.2 + y1) := by
  obtain ⟨h1, h2⟩ := Dig.big c h ht
  refine ⟨?_, ?_, hr, by have := h.q; simp only; omega⟩
  · have := h.e
    simp only
    obtain ⟨q, hq⟩ : ∃ q, x.1 = q + 1 := ⟨x.1 - 1, by omega⟩
    rw [hq, Nat.add_mul] at this
    rw [hq]
    simp only [Nat.add_sub_cancel]; omega
  · simp only
    rw [show x.1 - 1 + 1 = x.1 by omega]; exact h1
theorem Dig.fin1 {y y1 y0 u d : Nat} (c : DigC y y1 y0 u d) {x : Nat × Nat} (h : Dig y y1 y0 u d x) (ht : ¬ tooBig y0 d x) : x.1 = (u * 4294967296 + d) / y := by
  unfold tooBig at ht
  have h2 : x.1 * y0 ≤ 4294967296 * x.2 + d := Decidable.byContradiction fun hh => ht (.inr hh)
  refine dig_eq ?_ h.b
  rw [← c.hy]; exact dig_end h.e h2
theorem Dig.fin2 {y y1 y0 u d : Nat} (c : DigC y y1 y0 u d) {x : Nat × Nat} (h : Dig y y1 y0 u d x) (ht : tooBig y0 d x) (hr : 4294967296 ≤ x.2 + y1) : x.1 - 1 = (u * 4294967296 + d) / y := by
  obtain ⟨h1, h2⟩ := Dig.big c h ht
  obtain ⟨q, hq⟩ : ∃ q, x.1 = q + 1 := ⟨x.1 - 1, by omega⟩
  have he := h.e
  rw [hq, Nat.add_mul] at he
  have hq2 := h.q
  have : q * y0 ≤ 4294967296 * 4294967295 := Nat.mul_le_mul (by omega) (by have := c.h0; omega)
  refine dig_eq ?_ (by rw [show x.1 - 1 + 1 = x.1 by omega]; exact h1)
  rw [← c.hy, hq]
  exact dig_end (r := x.2 + y1) (by simp only [Nat.add_sub_cancel]; omega) (by simp only [Nat.add_sub_cancel]; omega)
theorem dig_lt {y u d : Nat} (hu : u < y) (hd : d < 4294967296) : (u * 4294967296 + d) / y < 4294967296 := by
  rw [Nat.div_lt_iff_lt_mul (by omega)]
  omega
end Go.Proofs.YtddglikicokpeaaDoor
