/- num: Len64, Div64. -/
import Derived.Test.YtddglikicokpeaaDoorFrA
namespace Go.Proofs.YtddglikicokpeaaDoor
open Go Go.RowKit
set_option linter.unusedVariables false
set_option linter.unusedSimpArgs false
set_option maxHeartbeats 4000000

def tab8 : List UInt8 := ([0, 1, 2, 2, 3, 3, 3, 3, 4, 4, 4, 4, 4, 4, 4, 4, 5, 5, 5, 5, 5, 5, 5, 5, 5, 5, 5, 5, 5, 5, 5, 5, 6, 6, 6, 6, 6, 6, 6, 6, 6, 6, 6, 6, 6, 6, 6, 6, 6, 6, 6, 6, 6, 6, 6, 6, 6, 6, 6, 6, 6, 6, 6, 6, 7, 7, 7, 7, 7, 7, 7, 7, 7, 7, 7, 7, 7, 7, 7, 7, 7, 7, 7, 7, 7, 7, 7, 7, 7, 7, 7, 7, 7, 7, 7, 7, 7, 7, 7, 7, 7, 7, 7, 7, 7, 7, 7, 7, 7, 7, 7, 7, 7, 7, 7, 7, 7, 7, 7, 7, 7, 7, 7, 7, 7, 7, 7, 7, 8, 8, 8, 8, 8, 8, 8, 8, 8, 8, 8, 8, 8, 8, 8, 8, 8, 8, 8, 8, 8, 8, 8, 8, 8, 8, 8, 8, 8, 8, 8, 8, 8, 8, 8, 8, 8, 8, 8, 8, 8, 8, 8, 8, 8, 8, 8, 8, 8, 8, 8, 8, 8, 8, 8, 8, 8, 8, 8, 8, 8, 8, 8, 8, 8, 8, 8, 8, 8, 8, 8, 8, 8, 8, 8, 8, 8, 8, 8, 8, 8, 8, 8, 8, 8, 8, 8, 8, 8, 8, 8, 8, 8, 8, 8, 8, 8, 8, 8, 8, 8, 8, 8, 8, 8, 8, 8, 8, 8, 8, 8, 8, 8, 8, 8, 8, 8, 8, 8, 8, 8, 8, 8, 8, 8, 8, 8, 8] : List UInt8)
theorem tab8_ok : (List.range 256).all (fun b => match tab8[b]? with | some t => Nat.beq t.toNat (lenT b) && Nat.blt b (2 ^ lenT b) && (Nat.beq b 0 || (Nat.ble (2 ^ (lenT b - 1)) b && Nat.ble 1 (lenT b))) && Nat.ble (lenT b) 8 | none => false) = true := by decide +kernel
theorem tab8_get (b : Nat) (h : b < 256) : ∃ t, ([0, 1, 2, 2, 3, 3, 3, 3, 4, 4, 4, 4, 4, 4, 4, 4, 5, 5, 5, 5, 5, 5, 5, 5, 5, 5, 5, 5, 5, 5, 5, 5, 6, 6, 6, 6, 6, 6, 6, 6, 6, 6, 6, 6, 6, 6, 6, 6, 6, 6, 6, 6, 6, 6, 6, 6, 6, 6, 6, 6, 6, 6, 6, 6, 7, 7, 7, 7, 7, 7, 7, 7, 7, 7, 7, 7, 7, 7, 7, 7, 7, 7, 7, 7, 7, 7, 7, 7, 7, 7, 7, 7, 7, 7, 7, 7, 7, 7, 7, 7, 7, 7, 7, 7, 7, 7, 7, 7, 7, 7, 7, 7, 7, 7, 7, 7, 7, 7, 7, 7, 7, 7, 7, 7, 7, 7, 7, 7, 8, 8, 8, 8, 8, 8, 8, 8, 8, 8, 8, 8, 8, 8, 8, 8, 8, 8, 8, 8, 8, 8, 8, 8, 8, 8, 8, 8, 8, 8, 8, 8, 8, 8, 8, 8, 8, 8, 8, 8, 8, 8, 8, 8, 8, 8, 8, 8, 8, 8, 8, 8, 8, 8, 8, 8, 8, 8, 8, 8, 8, 8, 8, 8, 8, 8, 8, 8, 8, 8, 8, 8, 8, 8, 8, 8, 8, 8, 8, 8, 8, 8, 8, 8, 8, 8, 8, 8, 8, 8, 8, 8, 8, 8, 8, 8, 8, 8, 8, 8, 8, 8, 8, 8, 8, 8, 8, 8, 8, 8, 8, 8, 8, 8, 8, 8, 8, 8, 8, 8, 8, 8, 8, 8, 8, 8, 8, 8] : List UInt8)[b]? = some t ∧ t.toNat = lenT b ∧ b < 2 ^ lenT b ∧ (0 < b → 2 ^ (lenT b - 1) ≤ b ∧ 1 ≤ lenT b) ∧ lenT b ≤ 8 := by
  have h2 := List.all_eq_true.1 tab8_ok b (by simp [h])
  revert h2
  split
  · rename_i t ht
    intro h2
    simp only [Bool.and_eq_true, Nat.beq_eq, Nat.blt_eq, Nat.ble_eq, Bool.or_eq_true] at h2
    obtain ⟨⟨⟨h3, h4⟩, h5⟩, h6⟩ := h2
    exact ⟨t, ht, h3, h4, fun h0 => by rcases h5 with h5 | h5; · omega
                                       · exact h5, h6⟩
  · intro h2; cases h2

theorem len_scale {x k b l : Nat} (hb : x / 2 ^ k = b) (h1 : b < 2 ^ l) (h2 : 0 < b → 2 ^ (l - 1) ≤ b ∧ 1 ≤ l) : x < 2 ^ (k + l) ∧ (0 < b → 2 ^ (k + l - 1) ≤ x ∧ 1 ≤ l) := by
  subst hb
  have hp : 0 < 2 ^ k := Nat.pow_pos (by omega)
  constructor
  · rw [Nat.pow_add]
    have := (Nat.div_lt_iff_lt_mul hp).1 h1
    rw [Nat.mul_comm]; exact this
  · intro h0
    obtain ⟨h3, h4⟩ := h2 h0
    refine ⟨?_, h4⟩
    rw [show k + l - 1 = k + (l - 1) by omega, Nat.pow_add, Nat.mul_comm]
    exact (Nat.le_div_iff_mul_le hp).1 h3

set_option maxRecDepth 100000 in
theorem f68 (x : Nat) (hx : x < 18446744073709551616) : ∃ L, evE Dg 68 [.int .u64 x] = some (.int .i64 (L : Nat)) ∧ L ≤ 64 ∧ x < 2 ^ L ∧ (0 < x → 2 ^ (L - 1) ≤ x ∧ 1 ≤ L) := by
  have fin : ∀ (k b : Nat), x / 2 ^ k = b → b < 256 → (k = 0 ∨ 0 < b) → k ≤ 56 → (∀ t : UInt8, ([0, 1, 2, 2, 3, 3, 3, 3, 4, 4, 4, 4, 4, 4, 4, 4, 5, 5, 5, 5, 5, 5, 5, 5, 5, 5, 5, 5, 5, 5, 5, 5, 6, 6, 6, 6, 6, 6, 6, 6, 6, 6, 6, 6, 6, 6, 6, 6, 6, 6, 6, 6, 6, 6, 6, 6, 6, 6, 6, 6, 6, 6, 6, 6, 7, 7, 7, 7, 7, 7, 7, 7, 7, 7, 7, 7, 7, 7, 7, 7, 7, 7, 7, 7, 7, 7, 7, 7, 7, 7, 7, 7, 7, 7, 7, 7, 7, 7, 7, 7, 7, 7, 7, 7, 7, 7, 7, 7, 7, 7, 7, 7, 7, 7, 7, 7, 7, 7, 7, 7, 7, 7, 7, 7, 7, 7, 7, 7, 8, 8, 8, 8, 8, 8, 8, 8, 8, 8, 8, 8, 8, 8, 8, 8, 8, 8, 8, 8, 8, 8, 8, 8, 8, 8, 8, 8, 8, 8, 8, 8, 8, 8, 8, 8, 8, 8, 8, 8, 8, 8, 8, 8, 8, 8, 8, 8, 8, 8, 8, 8, 8, 8, 8, 8, 8, 8, 8, 8, 8, 8, 8, 8, 8, 8, 8, 8, 8, 8, 8, 8, 8, 8, 8, 8, 8, 8, 8, 8, 8, 8, 8, 8, 8, 8, 8, 8, 8, 8, 8, 8, 8, 8, 8, 8, 8, 8, 8, 8, 8, 8, 8, 8, 8, 8, 8, 8, 8, 8, 8, 8, 8, 8, 8, 8, 8, 8, 8, 8, 8, 8, 8, 8, 8, 8, 8, 8] : List UInt8)[b]? = some t → t.toNat = lenT b → lenT b ≤ 8 → evE Dg 68 [.int .u64 x] = some (.int .i64 ((k + lenT b : Nat) : Int))) →
      ∃ L, evE Dg 68 [.int .u64 x] = some (.int .i64 (L : Nat)) ∧ L ≤ 64 ∧ x < 2 ^ L ∧ (0 < x → 2 ^ (L - 1) ≤ x ∧ 1 ≤ L) := by
    intro k b hb hb2 hb3 hk he
    obtain ⟨t, ht, q1, q2, q3, q4⟩ := tab8_get b hb2
    obtain ⟨r1, r2⟩ := len_scale hb q2 q3
    refine ⟨k + lenT b, he t ht q1 q4, by omega, r1, fun h0 => ?_⟩
    rcases hb3 with h | h
    · subst h
      have : 0 < b := by rw [← hb]; simpa using h0
      have := r2 this
      exact ⟨this.1, by omega⟩
    · have := r2 h
      exact ⟨this.1, by omega⟩
  by_cases h0 : 4294967296 ≤ x
  · have a1 : (4294967296 : Int) ≤ (x : Nat) := by omega
    obtain ⟨y, hy⟩ : ∃ y, y = x / 4294967296 := ⟨_, rfl⟩
    have s0 : Int.fdiv (x : Nat) 4294967296 = (y : Int) := by rw [Int.fdiv_eq_ediv_of_nonneg _ (by omega)]; omega
    by_cases h1 : 65536 ≤ y
    · have a2 : (65536 : Int) ≤ (y : Nat) := by omega
      obtain ⟨z, hz⟩ : ∃ z, z = y / 65536 := ⟨_, rfl⟩
      have s1 : Int.fdiv (y : Nat) 65536 = (z : Int) := by rw [Int.fdiv_eq_ediv_of_nonneg _ (by omega)]; omega
      by_cases h2 : 256 ≤ z
      · have a3 : (256 : Int) ≤ (z : Nat) := by omega
        obtain ⟨v, hv⟩ : ∃ v, v = z / 256 := ⟨_, rfl⟩
        have s2 : Int.fdiv (z : Nat) 256 = (v : Int) := by rw [Int.fdiv_eq_ediv_of_nonneg _ (by omega)]; omega
        refine fin 56 v (by omega) (by omega) (by omega) (by omega) fun t ht q1 q4 => ?_
        have w0 : IntKind.u8.wrap (v : Int) = v := wrap_u8 _ (by omega) (by omega)
        have w1 : IntKind.i64.wrap (lenT v : Int) = lenT v := wrap_i64 _ (by omega) (by omega)
        have w2 : IntKind.i64.wrap (56 + (lenT v : Int)) = 56 + (lenT v : Int) := wrap_i64 _ (by omega) (by omega)
        have w3 : IntKind.i64.wrap 16 = 16 := wrap_i64 _ (by omega) (by omega)
        have w4 : IntKind.i64.wrap 8 = 8 := wrap_i64 _ (by omega) (by omega)
        have w5 : IntKind.i64.wrap 24 = 24 := wrap_i64 _ (by omega) (by omega)
        have w6 : IntKind.i64.wrap 48 = 48 := wrap_i64 _ (by omega) (by omega)
        have w7 : IntKind.i64.wrap 40 = 40 := wrap_i64 _ (by omega) (by omega)
        have w8 : IntKind.i64.wrap 56 = 56 := wrap_i64 _ (by omega) (by omega)
        clear fin
        refine evE_intro 1 D68 rfl ?_
        unfold c68
        simp [evCode, evOps, evOne, evOp, evPur, evEff, evPur.chunks, fillP, AOp.isEff, AO.ev, putP, PV.cells, PV.leaf, getB, getM, mapE, iterE, keyC, mapRows, mfind, eq1, eqL, scal, binP, unP, minP, maxP, foldP, PV.lt, PV.lt.ltL, endP, expoAll, expoG, expo, expo.expoL, frIds, frIds.frIdsL, nodupN, kill, cls, clsFuel, resO, RV.get, loadP, evC_p, evC_s, endS, endT, rowsOf, callP, thinL, unfr, unfr.unfrL, PV.noMem, PV.noMem.noMemL, optI, mapO, norm, trimT, trimB, forget, hasN, blksLt, List.set, softChk, softGo, softRd, effTg, rdP, a1, a2, a3, min_bits, min_bits', w0, w1, w2, w3, w4, w5, w6, w7, w8, s2, s1, s0, q1, ht]
      · have a3 : ¬ (256 : Int) ≤ (z : Nat) := by omega
        refine fin 48 z (by omega) (by omega) (by omega) (by omega) fun t ht q1 q4 => ?_
        have w0 : IntKind.u8.wrap (z : Int) = z := wrap_u8 _ (by omega) (by omega)
        have w1 : IntKind.i64.wrap (lenT z : Int) = lenT z := wrap_i64 _ (by omega) (by omega)
        have w2 : IntKind.i64.wrap (48 + (lenT z : Int)) = 48 + (lenT z : Int) := wrap_i64 _ (by omega) (by omega)
        have w3 : IntKind.i64.wrap 16 = 16 := wrap_i64 _ (by omega) (by omega)
        have w4 : IntKind.i64.wrap 8 = 8 := wrap_i64 _ (by omega) (by omega)
        have w5 : IntKind.i64.wrap 24 = 24 := wrap_i64 _ (by omega) (by omega)
        have w6 : IntKind.i64.wrap 48 = 48 := wrap_i64 _ (by omega) (by omega)
        have w7 : IntKind.i64.wrap 40 = 40 := wrap_i64 _ (by omega) (by omega)
        have w8 : IntKind.i64.wrap 56 = 56 := wrap_i64 _ (by omega) (by omega)
        clear fin
        refine evE_intro 1 D68 rfl ?_
        unfold c68
        simp [evCode, evOps, evOne, evOp, evPur, evEff, evPur.chunks, fillP, AOp.isEff, AO.ev, putP, PV.cells, PV.leaf, getB, getM, mapE, iterE, keyC, mapRows, mfind, eq1, eqL, scal, binP, unP, minP, maxP, foldP, PV.lt, PV.lt.ltL, endP, expoAll, expoG, expo, expo.expoL, frIds, frIds.frIdsL, nodupN, kill, cls, clsFuel, resO, RV.get, loadP, evC_p, evC_s, endS, endT, rowsOf, callP, thinL, unfr, unfr.unfrL, PV.noMem, PV.noMem.noMemL, optI, mapO, norm, trimT, trimB, forget, hasN, blksLt, List.set, softChk, softGo, softRd, effTg, rdP, a1, a2, a3, min_bits, min_bits', w0, w1, w2, w3, w4, w5, w6, w7, w8, s1, s0, q1, ht]
    · have a2 : ¬ (65536 : Int) ≤ (y : Nat) := by omega
      by_cases h2 : 256 ≤ y
      · have a3 : (256 : Int) ≤ (y : Nat) := by omega
        obtain ⟨v, hv⟩ : ∃ v, v = y / 256 := ⟨_, rfl⟩
        have s2 : Int.fdiv (y : Nat) 256 = (v : Int) := by rw [Int.fdiv_eq_ediv_of_nonneg _ (by omega)]; omega
        refine fin 40 v (by omega) (by omega) (by omega) (by omega) fun t ht q1 q4 => ?_
        have w0 : IntKind.u8.wrap (v : Int) = v := wrap_u8 _ (by omega) (by omega)
        have w1 : IntKind.i64.wrap (lenT v : Int) = lenT v := wrap_i64 _ (by omega) (by omega)
        have w2 : IntKind.i64.wrap (40 + (lenT v : Int)) = 40 + (lenT v : Int) := wrap_i64 _ (by omega) (by omega)
        have w3 : IntKind.i64.wrap 16 = 16 := wrap_i64 _ (by omega) (by omega)
        have w4 : IntKind.i64.wrap 8 = 8 := wrap_i64 _ (by omega) (by omega)
        have w5 : IntKind.i64.wrap 24 = 24 := wrap_i64 _ (by omega) (by omega)
        have w6 : IntKind.i64.wrap 48 = 48 := wrap_i64 _ (by omega) (by omega)
        have w7 : IntKind.i64.wrap 40 = 40 := wrap_i64 _ (by omega) (by omega)
        have w8 : IntKind.i64.wrap 56 = 56 := wrap_i64 _ (by omega) (by omega)
        clear fin
        refine evE_intro 1 D68 rfl ?_
        unfold c68
        simp [evCode, evOps, evOne, evOp, evPur, evEff, evPur.chunks, fillP, AOp.isEff, AO.ev, putP, PV.cells, PV.leaf, getB, getM, mapE, iterE, keyC, mapRows, mfind, eq1, eqL, scal, binP, unP, minP, maxP, foldP, PV.lt, PV.lt.ltL, endP, expoAll, expoG, expo, expo.expoL, frIds, frIds.frIdsL, nodupN, kill, cls, clsFuel, resO, RV.get, loadP, evC_p, evC_s, endS, endT, rowsOf, callP, thinL, unfr, unfr.unfrL, PV.noMem, PV.noMem.noMemL, optI, mapO, norm, trimT, trimB, forget, hasN, blksLt, List.set, softChk, softGo, softRd, effTg, rdP, a1, a2, a3, min_bits, min_bits', w0, w1, w2, w3, w4, w5, w6, w7, w8, s2, s0, q1, ht]
      · have a3 : ¬ (256 : Int) ≤ (y : Nat) := by omega
        refine fin 32 y (by omega) (by omega) (by omega) (by omega) fun t ht q1 q4 => ?_
        have w0 : IntKind.u8.wrap (y : Int) = y := wrap_u8 _ (by omega) (by omega)
        have w1 : IntKind.i64.wrap (lenT y : Int) = lenT y := wrap_i64 _ (by omega) (by omega)
        have w2 : IntKind.i64.wrap (32 + (lenT y : Int)) = 32 + (lenT y : Int) := wrap_i64 _ (by omega) (by omega)
        have w3 : IntKind.i64.wrap 16 = 16 := wrap_i64 _ (by omega) (by omega)
        have w4 : IntKind.i64.wrap 8 = 8 := wrap_i64 _ (by omega) (by omega)
        have w5 : IntKind.i64.wrap 24 = 24 := wrap_i64 _ (by omega) (by omega)
        have w6 : IntKind.i64.wrap 48 = 48 := wrap_i64 _ (by omega) (by omega)
        have w7 : IntKind.i64.wrap 40 = 40 := wrap_i64 _ (by omega) (by omega)
        have w8 : IntKind.i64.wrap 56 = 56 := wrap_i64 _ (by omega) (by omega)
        clear fin
        refine evE_intro 1 D68 rfl ?_
        unfold c68
        simp [evCode, evOps, evOne, evOp, evPur, evEff, evPur.chunks, fillP, AOp.isEff, AO.ev, putP, PV.cells, PV.leaf, getB, getM, mapE, iterE, keyC, mapRows, mfind, eq1, eqL, scal, binP, unP, minP, maxP, foldP, PV.lt, PV.lt.ltL, endP, expoAll, expoG, expo, expo.expoL, frIds, frIds.frIdsL, nodupN, kill, cls, clsFuel, resO, RV.get, loadP, evC_p, evC_s, endS, endT, rowsOf, callP, thinL, unfr, unfr.unfrL, PV.noMem, PV.noMem.noMemL, optI, mapO, norm, trimT, trimB, forget, hasN, blksLt, List.set, softChk, softGo, softRd, effTg, rdP, a1, a2, a3, min_bits, min_bits', w0, w1, w2, w3, w4, w5, w6, w7, w8, s0, q1, ht]
  · have a1 : ¬ (4294967296 : Int) ≤ (x : Nat) := by omega
    by_cases h1 : 65536 ≤ x
    · have a2 : (65536 : Int) ≤ (x : Nat) := by omega
      obtain ⟨z, hz⟩ : ∃ z, z = x / 65536 := ⟨_, rfl⟩
      have s1 : Int.fdiv (x : Nat) 65536 = (z : Int) := by rw [Int.fdiv_eq_ediv_of_nonneg _ (by omega)]; omega
      by_cases h2 : 256 ≤ z
      · have a3 : (256 : Int) ≤ (z : Nat) := by omega
        obtain ⟨v, hv⟩ : ∃ v, v = z / 256 := ⟨_, rfl⟩
        have s2 : Int.fdiv (z : Nat) 256 = (v : Int) := by rw [Int.fdiv_eq_ediv_of_nonneg _ (by omega)]; omega
        refine fin 24 v (by omega) (by omega) (by omega) (by omega) fun t ht q1 q4 => ?_
        have w0 : IntKind.u8.wrap (v : Int) = v := wrap_u8 _ (by omega) (by omega)
        have w1 : IntKind.i64.wrap (lenT v : Int) = lenT v := wrap_i64 _ (by omega) (by omega)
        have w2 : IntKind.i64.wrap (24 + (lenT v : Int)) = 24 + (lenT v : Int) := wrap_i64 _ (by omega) (by omega)
        have w3 : IntKind.i64.wrap 16 = 16 := wrap_i64 _ (by omega) (by omega)
        have w4 : IntKind.i64.wrap 8 = 8 := wrap_i64 _ (by omega) (by omega)
        have w5 : IntKind.i64.wrap 24 = 24 := wrap_i64 _ (by omega) (by omega)
        have w6 : IntKind.i64.wrap 48 = 48 := wrap_i64 _ (by omega) (by omega)
        have w7 : IntKind.i64.wrap 40 = 40 := wrap_i64 _ (by omega) (by omega)
        have w8 : IntKind.i64.wrap 56 = 56 := wrap_i64 _ (by omega) (by omega)
        clear fin
        refine evE_intro 1 D68 rfl ?_
        unfold c68
        simp [evCode, evOps, evOne, evOp, evPur, evEff, evPur.chunks, fillP, AOp.isEff, AO.ev, putP, PV.cells, PV.leaf, getB, getM, mapE, iterE, keyC, mapRows, mfind, eq1, eqL, scal, binP, unP, minP, maxP, foldP, PV.lt, PV.lt.ltL, endP, expoAll, expoG, expo, expo.expoL, frIds, frIds.frIdsL, nodupN, kill, cls, clsFuel, resO, RV.get, loadP, evC_p, evC_s, endS, endT, rowsOf, callP, thinL, unfr, unfr.unfrL, PV.noMem, PV.noMem.noMemL, optI, mapO, norm, trimT, trimB, forget, hasN, blksLt, List.set, softChk, softGo, softRd, effTg, rdP, a1, a2, a3, min_bits, min_bits', w0, w1, w2, w3, w4, w5, w6, w7, w8, s2, s1, q1, ht]
      · have a3 : ¬ (256 : Int) ≤ (z : Nat) := by omega
        refine fin 16 z (by omega) (by omega) (by omega) (by omega) fun t ht q1 q4 => ?_
        have w0 : IntKind.u8.wrap (z : Int) = z := wrap_u8 _ (by omega) (by omega)
        have w1 : IntKind.i64.wrap (lenT z : Int) = lenT z := wrap_i64 _ (by omega) (by omega)
        have w2 : IntKind.i64.wrap (16 + (lenT z : Int)) = 16 + (lenT z : Int) := wrap_i64 _ (by omega) (by omega)
        have w3 : IntKind.i64.wrap 16 = 16 := wrap_i64 _ (by omega) (by omega)
        have w4 : IntKind.i64.wrap 8 = 8 := wrap_i64 _ (by omega) (by omega)
        have w5 : IntKind.i64.wrap 24 = 24 := wrap_i64 _ (by omega) (by omega)
        have w6 : IntKind.i64.wrap 48 = 48 := wrap_i64 _ (by omega) (by omega)
        have w7 : IntKind.i64.wrap 40 = 40 := wrap_i64 _ (by omega) (by omega)
        have w8 : IntKind.i64.wrap 56 = 56 := wrap_i64 _ (by omega) (by omega)
        clear fin
        refine evE_intro 1 D68 rfl ?_
        unfold c68
        simp [evCode, evOps, evOne, evOp, evPur, evEff, evPur.chunks, fillP, AOp.isEff, AO.ev, putP, PV.cells, PV.leaf, getB, getM, mapE, iterE, keyC, mapRows, mfind, eq1, eqL, scal, binP, unP, minP, maxP, foldP, PV.lt, PV.lt.ltL, endP, expoAll, expoG, expo, expo.expoL, frIds, frIds.frIdsL, nodupN, kill, cls, clsFuel, resO, RV.get, loadP, evC_p, evC_s, endS, endT, rowsOf, callP, thinL, unfr, unfr.unfrL, PV.noMem, PV.noMem.noMemL, optI, mapO, norm, trimT, trimB, forget, hasN, blksLt, List.set, softChk, softGo, softRd, effTg, rdP, a1, a2, a3, min_bits, min_bits', w0, w1, w2, w3, w4, w5, w6, w7, w8, s1, q1, ht]
    · have a2 : ¬ (65536 : Int) ≤ (x : Nat) := by omega
      by_cases h2 : 256 ≤ x
      · have a3 : (256 : Int) ≤ (x : Nat) := by omega
        obtain ⟨v, hv⟩ : ∃ v, v = x / 256 := ⟨_, rfl⟩
        have s2 : Int.fdiv (x : Nat) 256 = (v : Int) := by rw [Int.fdiv_eq_ediv_of_nonneg _ (by omega)]; omega
        refine fin 8 v (by omega) (by omega) (by omega) (by omega) fun t ht q1 q4 => ?_
        have w0 : IntKind.u8.wrap (v : Int) = v := wrap_u8 _ (by omega) (by omega)
        have w1 : IntKind.i64.wrap (lenT v : Int) = lenT v := wrap_i64 _ (by omega) (by omega)
        have w2 : IntKind.i64.wrap (8 + (lenT v : Int)) = 8 + (lenT v : Int) := wrap_i64 _ (by omega) (by omega)
        have w3 : IntKind.i64.wrap 16 = 16 := wrap_i64 _ (by omega) (by omega)
        have w4 : IntKind.i64.wrap 8 = 8 := wrap_i64 _ (by omega) (by omega)
        have w5 : IntKind.i64.wrap 24 = 24 := wrap_i64 _ (by omega) (by omega)
        have w6 : IntKind.i64.wrap 48 = 48 := wrap_i64 _ (by omega) (by omega)
        have w7 : IntKind.i64.wrap 40 = 40 := wrap_i64 _ (by omega) (by omega)
        have w8 : IntKind.i64.wrap 56 = 56 := wrap_i64 _ (by omega) (by omega)
        clear fin
        refine evE_intro 1 D68 rfl ?_
        unfold c68
        simp [evCode, evOps, evOne, evOp, evPur, evEff, evPur.chunks, fillP, AOp.isEff, AO.ev, putP, PV.cells, PV.leaf, getB, getM, mapE, iterE, keyC, mapRows, mfind, eq1, eqL, scal, binP, unP, minP, maxP, foldP, PV.lt, PV.lt.ltL, endP, expoAll, expoG, expo, expo.expoL, frIds, frIds.frIdsL, nodupN, kill, cls, clsFuel, resO, RV.get, loadP, evC_p, evC_s, endS, endT, rowsOf, callP, thinL, unfr, unfr.unfrL, PV.noMem, PV.noMem.noMemL, optI, mapO, norm, trimT, trimB, forget, hasN, blksLt, List.set, softChk, softGo, softRd, effTg, rdP, a1, a2, a3, min_bits, min_bits', w0, w1, w2, w3, w4, w5, w6, w7, w8, s2, q1, ht]
      · have a3 : ¬ (256 : Int) ≤ (x : Nat) := by omega
        refine fin 0 x (by omega) (by omega) (by omega) (by omega) fun t ht q1 q4 => ?_
        have w0 : IntKind.u8.wrap (x : Int) = x := wrap_u8 _ (by omega) (by omega)
        have w1 : IntKind.i64.wrap (lenT x : Int) = lenT x := wrap_i64 _ (by omega) (by omega)
        have w2 : IntKind.i64.wrap (0 + (lenT x : Int)) = 0 + (lenT x : Int) := wrap_i64 _ (by omega) (by omega)
        have w3 : IntKind.i64.wrap 16 = 16 := wrap_i64 _ (by omega) (by omega)
        have w4 : IntKind.i64.wrap 8 = 8 := wrap_i64 _ (by omega) (by omega)
        have w5 : IntKind.i64.wrap 24 = 24 := wrap_i64 _ (by omega) (by omega)
        have w6 : IntKind.i64.wrap 48 = 48 := wrap_i64 _ (by omega) (by omega)
        have w7 : IntKind.i64.wrap 40 = 40 := wrap_i64 _ (by omega) (by omega)
        have w8 : IntKind.i64.wrap 56 = 56 := wrap_i64 _ (by omega) (by omega)
        clear fin
        refine evE_intro 1 D68 rfl ?_
        unfold c68
        simp [evCode, evOps, evOne, evOp, evPur, evEff, evPur.chunks, fillP, AOp.isEff, AO.ev, putP, PV.cells, PV.leaf, getB, getM, mapE, iterE, keyC, mapRows, mfind, eq1, eqL, scal, binP, unP, minP, maxP, foldP, PV.lt, PV.lt.ltL, endP, expoAll, expoG, expo, expo.expoL, frIds, frIds.frIdsL, nodupN, kill, cls, clsFuel, resO, RV.get, loadP, evC_p, evC_s, endS, endT, rowsOf, callP, thinL, unfr, unfr.unfrL, PV.noMem, PV.noMem.noMemL, optI, mapO, norm, trimT, trimB, forget, hasN, blksLt, List.set, softChk, softGo, softRd, effTg, rdP, a1, a2, a3, min_bits, min_bits', w0, w1, w2, w3, w4, w5, w6, w7, w8, q1, ht]
end Go.Proofs.YtddglikicokpeaaDoor
