/- num: Div64, whole. -/
import Derived.Test.YtddglikicokpeaaDoorFrD
namespace Go.Proofs.YtddglikicokpeaaDoor
open Go Go.RowKit
set_option linter.unusedVariables false
set_option linter.unusedSimpArgs false
set_option maxHeartbeats 8000000
set_option maxRecDepth 100000

theorem ex_eq {α : Type} (a : α) : ∃ b, a = b := ⟨a, rfl⟩
theorem digC_of {Y u d y1 y0 : Nat} (g1 : Y / 4294967296 = y1) (g0 : Y % 4294967296 = y0) (h1 : 9223372036854775808 ≤ Y) (h2 : Y < 18446744073709551616) (hu : u < Y) (hd : d < 4294967296) : DigC Y y1 y0 u d := ⟨by omega, by omega, by omega, by omega, hu, hd⟩
/-- the numbers of a long division -/
theorem long_div {hi lo y s : Nat} (hs : s ≤ 63) (hlo : lo < 18446744073709551616) (hy : hi < y) (hn : y * 2 ^ s < 18446744073709551616) :
    hi * 2 ^ s + lo / 2 ^ (64 - s) < y * 2 ^ s ∧ lo / 2 ^ (64 - s) < 2 ^ s ∧ hi * 2 ^ s < 18446744073709551616 ∧
    (hi * 2 ^ s + lo / 2 ^ (64 - s)) * 18446744073709551616 + lo * 2 ^ s % 18446744073709551616 = (hi * 18446744073709551616 + lo) * 2 ^ s := by
  have hp : 0 < 2 ^ s := Nat.pow_pos (by omega)
  have hpp : 2 ^ s * 2 ^ (64 - s) = 18446744073709551616 := by rw [← Nat.pow_add, show s + (64 - s) = 64 by omega]
  have h1 : lo / 2 ^ (64 - s) < 2 ^ s := by
    rw [Nat.div_lt_iff_lt_mul (Nat.pow_pos (by omega)), hpp]; exact hlo
  have h2 : (hi + 1) * 2 ^ s ≤ y * 2 ^ s := Nat.mul_le_mul_right _ hy
  rw [Nat.add_mul] at h2
  have h3 : lo * 2 ^ s / 18446744073709551616 = lo / 2 ^ (64 - s) := by
    rw [← hpp, Nat.mul_comm (2 ^ s), Nat.mul_div_mul_right _ _ hp]
  have h4 := Nat.div_add_mod (lo * 2 ^ s) 18446744073709551616
  rw [h3] at h4
  refine ⟨by omega, h1, by omega, ?_⟩
  rw [Nat.add_mul (hi * 18446744073709551616)]
  have h5 : hi * 18446744073709551616 * 2 ^ s = hi * 2 ^ s * 18446744073709551616 := by rw [Nat.mul_assoc, Nat.mul_comm 18446744073709551616, ← Nat.mul_assoc]
  rw [h5]
  omega
theorem div_digits {N y u un1 un0 q1 r1 q0 : Nat} (hN : N = (u * 4294967296 + un1) * 4294967296 + un0) (h1 : q1 = (u * 4294967296 + un1) / y) (h2 : r1 = (u * 4294967296 + un1) % y) (h3 : q0 = (r1 * 4294967296 + un0) / y) (hy : 0 < y) :
    q1 * 4294967296 + q0 = N / y ∧ (r1 * 4294967296 + un0) % y = N % y := by
  have e := Nat.div_add_mod (u * 4294967296 + un1) y
  rw [← h1, ← h2] at e
  have hN2 : N = r1 * 4294967296 + un0 + y * (q1 * 4294967296) := by
    rw [hN, ← e]; grind
  rw [hN2, Nat.add_mul_div_left _ _ hy, Nat.add_mul_mod_self_left, ← h3]
  omega


def SX1 (y s y1 y0 u d d0 q r : Nat) (a0 a1 a2 a3 a4 a5 a6 a7 a8 a9 a10 a11 a12 a13 a14 a15 a16 a17 a18 : PV) : St := ⟨[.top, .top, .int .u64 y, .top, .top, .top, .top, .top, .int .u64 s, .int .u64 y1, .int .u64 y0, .int .u64 u, .top, .int .u64 d, .int .u64 d0, .int .u64 q, .int .u64 r] ++ (List.replicate 50 .top ++ ([a0, a1, a2, a3, a4, a5, a6, a7, a8, a9, a10, a11, a12, a13, a14, a15, a16, a17, a18] ++ List.replicate 49 .top)), []⟩
def SX2 (y s y1 y0 q1 u d0 q r : Nat) (a0 a1 a2 a3 a4 a5 a6 a7 a8 a9 a10 a11 a12 a13 a14 a15 a16 a17 a18 : PV) : St := ⟨[.top, .top, .int .u64 y, .top, .top, .top, .top, .top, .int .u64 s, .int .u64 y1, .int .u64 y0, .top, .top, .top, .int .u64 d0, .int .u64 q1, .int .u64 r, .int .u64 u, .int .u64 q] ++ (List.replicate 83 .top ++ ([a0, a1, a2, a3, a4, a5, a6, a7, a8, a9, a10, a11, a12, a13, a14, a15, a16, a17, a18] ++ List.replicate 14 .top)), []⟩

theorem exitD1 (y s y1 y0 u d d0 : Nat) (c : DigC y y1 y0 u d) (f : Nat) (x : Nat × Nat) (hI : Dig y y1 y0 u d x) (hs : digStop y1 y0 d x) :
    ∃ (r : Nat) (a0 a1 a2 a3 a4 a5 a6 a7 a8 a9 a10 a11 a12 a13 a14 a15 a16 a17 a18 : PV), evCode (evC Dg) f c60b1 (SD1 y s y1 y0 u d d0 x) = some (.exit 0 (SX1 y s y1 y0 u d d0 ((u * 4294967296 + d) / y) r a0 a1 a2 a3 a4 a5 a6 a7 a8 a9 a10 a11 a12 a13 a14 a15 a16 a17 a18)) := by
  obtain ⟨q, r⟩ := x
  have hq := hI.q
  have e0 := c.h0; have e1 := c.h1; have e2 := c.hd
  have hr0 := hI.r
  simp only at hq hr0
  obtain ⟨r', hr'⟩ := ex_eq (r + y1)
  have w2 := u_add r y1 r' hr' (by omega)
  obtain ⟨Z, hZ⟩ := ex_eq ((u * 4294967296 + d) / y)
  obtain ⟨O, hO⟩ := ex_eq (evCode (evC Dg) f c60b1 (SD1 y s y1 y0 u d d0 (q, r)))
  rw [hO, hZ]
  have two : tooBig y0 d (q, r) → (4294967296 : Int) ≤ r' ∧ 1 ≤ q ∧ q - 1 = Z := by
    intro ht
    have h4 : 4294967296 ≤ r + y1 := by
      rcases hs with hs | hs
      · exact absurd ht hs
      · exact hs
    have h5 := Dig.fin2 c hI ht h4
    have h6 := (Dig.big c hI ht).2
    simp only at h5 h6
    exact ⟨by omega, h6, by rw [h5, hZ]⟩
  by_cases hb : 4294967296 ≤ q
  · obtain ⟨b2, g1, g2⟩ := two (.inl hb)
    have b1 : (4294967296 : Int) ≤ (q : Int) := by omega
    have w1 : IntKind.u64.wrap ((q : Int) - 1) = (Z : Int) := by rw [wrap_u64 _ (by omega) (by omega)]; omega
    unfold c60b1 at hO
    simp [evCode, evOps, evOne, evOp, evPur, evEff, evPur.chunks, fillP, AOp.isEff, AO.ev, putP, PV.cells, PV.leaf, getB, getM, mapE, iterE, keyC, mapRows, mfind, eq1, eqL, scal, binP, unP, minP, maxP, foldP, PV.lt, PV.lt.ltL, endP, expoAll, expoG, expo, expo.expoL, frIds, frIds.frIdsL, nodupN, kill, cls, clsFuel, resO, RV.get, loadP, evC_p, evC_s, endS, endT, rowsOf, callP, thinL, unfr, unfr.unfrL, PV.noMem, PV.noMem.noMemL, optI, mapO, norm, trimT, trimB, forget, hasN, blksLt, List.set, softChk, softGo, softRd, effTg, rdP, SD1, b1, w1, w2, b2] at hO
    rw [← hO]
    exact ⟨r', _, _, _, _, _, _, _, _, _, _, _, _, _, _, _, _, _, _, _, rfl⟩
  · have b1 : ¬ (4294967296 : Int) ≤ (q : Int) := by omega
    obtain ⟨P, hP⟩ := ex_eq (q * y0)
    have hPl : P ≤ 4294967295 * 4294967295 := by rw [← hP]; exact Nat.mul_le_mul (by omega) (by omega)
    have w3 := u_mul q y0 P hP (by omega)
    obtain ⟨R, hR⟩ := ex_eq (4294967296 * r)
    have w4 : IntKind.u64.wrap (4294967296 * (r : Int)) = R := by rw [wrap_u64 _ (by omega) (by omega)]; omega
    obtain ⟨A, hA⟩ := ex_eq (R + d)
    have w5 := u_add R d A hA (by omega)
    by_cases hPA : P ≤ A
    · have b3 : ¬ (A : Int) < P := by omega
      have hn : ¬ tooBig y0 d (q, r) := by
        rintro (ht | ht)
        · exact hb ht
        · simp only [hP, hR, hA] at ht; exact ht hPA
      have h5 : q = Z := by rw [← hZ]; exact Dig.fin1 c hI hn
      subst h5
      unfold c60b1 at hO
      simp [evCode, evOps, evOne, evOp, evPur, evEff, evPur.chunks, fillP, AOp.isEff, AO.ev, putP, PV.cells, PV.leaf, getB, getM, mapE, iterE, keyC, mapRows, mfind, eq1, eqL, scal, binP, unP, minP, maxP, foldP, PV.lt, PV.lt.ltL, endP, expoAll, expoG, expo, expo.expoL, frIds, frIds.frIdsL, nodupN, kill, cls, clsFuel, resO, RV.get, loadP, evC_p, evC_s, endS, endT, rowsOf, callP, thinL, unfr, unfr.unfrL, PV.noMem, PV.noMem.noMemL, optI, mapO, norm, trimT, trimB, forget, hasN, blksLt, List.set, softChk, softGo, softRd, effTg, rdP, SD1, b1, w3, w4, w5, b3] at hO
      rw [← hO]
      exact ⟨r, _, _, _, _, _, _, _, _, _, _, _, _, _, _, _, _, _, _, _, rfl⟩
    · have b3 : (A : Int) < P := by omega
      obtain ⟨b2, g1, g2⟩ := two (.inr (by simp only [hP, hR, hA]; exact hPA))
      have w1 : IntKind.u64.wrap ((q : Int) - 1) = (Z : Int) := by rw [wrap_u64 _ (by omega) (by omega)]; omega
      unfold c60b1 at hO
      simp [evCode, evOps, evOne, evOp, evPur, evEff, evPur.chunks, fillP, AOp.isEff, AO.ev, putP, PV.cells, PV.leaf, getB, getM, mapE, iterE, keyC, mapRows, mfind, eq1, eqL, scal, binP, unP, minP, maxP, foldP, PV.lt, PV.lt.ltL, endP, expoAll, expoG, expo, expo.expoL, frIds, frIds.frIdsL, nodupN, kill, cls, clsFuel, resO, RV.get, loadP, evC_p, evC_s, endS, endT, rowsOf, callP, thinL, unfr, unfr.unfrL, PV.noMem, PV.noMem.noMemL, optI, mapO, norm, trimT, trimB, forget, hasN, blksLt, List.set, softChk, softGo, softRd, effTg, rdP, SD1, b1, w1, w2, w3, w4, w5, b3, b2] at hO
      rw [← hO]
      exact ⟨r', _, _, _, _, _, _, _, _, _, _, _, _, _, _, _, _, _, _, _, rfl⟩

theorem exitD2 (y s y1 y0 q1 u d : Nat) (c : DigC y y1 y0 u d) (f : Nat) (x : Nat × Nat) (hI : Dig y y1 y0 u d x) (hs : digStop y1 y0 d x) :
    ∃ (r : Nat) (a0 a1 a2 a3 a4 a5 a6 a7 a8 a9 a10 a11 a12 a13 a14 a15 a16 a17 a18 : PV), evCode (evC Dg) f c60b0 (SD2 y s y1 y0 q1 u d x) = some (.exit 2 (SX2 y s y1 y0 q1 u d ((u * 4294967296 + d) / y) r a0 a1 a2 a3 a4 a5 a6 a7 a8 a9 a10 a11 a12 a13 a14 a15 a16 a17 a18)) := by
  obtain ⟨q, r⟩ := x
  have hq := hI.q
  have e0 := c.h0; have e1 := c.h1; have e2 := c.hd
  have hr0 := hI.r
  simp only at hq hr0
  obtain ⟨r', hr'⟩ := ex_eq (r + y1)
  have w2 := u_add r y1 r' hr' (by omega)
  obtain ⟨Z, hZ⟩ := ex_eq ((u * 4294967296 + d) / y)
  obtain ⟨O, hO⟩ := ex_eq (evCode (evC Dg) f c60b0 (SD2 y s y1 y0 q1 u d (q, r)))
  rw [hO, hZ]
  have two : tooBig y0 d (q, r) → (4294967296 : Int) ≤ r' ∧ 1 ≤ q ∧ q - 1 = Z := by
    intro ht
    have h4 : 4294967296 ≤ r + y1 := by
      rcases hs with hs | hs
      · exact absurd ht hs
      · exact hs
    have h5 := Dig.fin2 c hI ht h4
    have h6 := (Dig.big c hI ht).2
    simp only at h5 h6
    exact ⟨by omega, h6, by rw [h5, hZ]⟩
  by_cases hb : 4294967296 ≤ q
  · obtain ⟨b2, g1, g2⟩ := two (.inl hb)
    have b1 : (4294967296 : Int) ≤ (q : Int) := by omega
    have w1 : IntKind.u64.wrap ((q : Int) - 1) = (Z : Int) := by rw [wrap_u64 _ (by omega) (by omega)]; omega
    unfold c60b0 at hO
    simp [evCode, evOps, evOne, evOp, evPur, evEff, evPur.chunks, fillP, AOp.isEff, AO.ev, putP, PV.cells, PV.leaf, getB, getM, mapE, iterE, keyC, mapRows, mfind, eq1, eqL, scal, binP, unP, minP, maxP, foldP, PV.lt, PV.lt.ltL, endP, expoAll, expoG, expo, expo.expoL, frIds, frIds.frIdsL, nodupN, kill, cls, clsFuel, resO, RV.get, loadP, evC_p, evC_s, endS, endT, rowsOf, callP, thinL, unfr, unfr.unfrL, PV.noMem, PV.noMem.noMemL, optI, mapO, norm, trimT, trimB, forget, hasN, blksLt, List.set, softChk, softGo, softRd, effTg, rdP, SD2, b1, w1, w2, b2] at hO
    rw [← hO]
    exact ⟨r', _, _, _, _, _, _, _, _, _, _, _, _, _, _, _, _, _, _, _, rfl⟩
  · have b1 : ¬ (4294967296 : Int) ≤ (q : Int) := by omega
    obtain ⟨P, hP⟩ := ex_eq (q * y0)
    have hPl : P ≤ 4294967295 * 4294967295 := by rw [← hP]; exact Nat.mul_le_mul (by omega) (by omega)
    have w3 := u_mul q y0 P hP (by omega)
    obtain ⟨R, hR⟩ := ex_eq (4294967296 * r)
    have w4 : IntKind.u64.wrap (4294967296 * (r : Int)) = R := by rw [wrap_u64 _ (by omega) (by omega)]; omega
    obtain ⟨A, hA⟩ := ex_eq (R + d)
    have w5 := u_add R d A hA (by omega)
    by_cases hPA : P ≤ A
    · have b3 : ¬ (A : Int) < P := by omega
      have hn : ¬ tooBig y0 d (q, r) := by
        rintro (ht | ht)
        · exact hb ht
        · simp only [hP, hR, hA] at ht; exact ht hPA
      have h5 : q = Z := by rw [← hZ]; exact Dig.fin1 c hI hn
      subst h5
      unfold c60b0 at hO
      simp [evCode, evOps, evOne, evOp, evPur, evEff, evPur.chunks, fillP, AOp.isEff, AO.ev, putP, PV.cells, PV.leaf, getB, getM, mapE, iterE, keyC, mapRows, mfind, eq1, eqL, scal, binP, unP, minP, maxP, foldP, PV.lt, PV.lt.ltL, endP, expoAll, expoG, expo, expo.expoL, frIds, frIds.frIdsL, nodupN, kill, cls, clsFuel, resO, RV.get, loadP, evC_p, evC_s, endS, endT, rowsOf, callP, thinL, unfr, unfr.unfrL, PV.noMem, PV.noMem.noMemL, optI, mapO, norm, trimT, trimB, forget, hasN, blksLt, List.set, softChk, softGo, softRd, effTg, rdP, SD2, b1, w3, w4, w5, b3] at hO
      rw [← hO]
      exact ⟨r, _, _, _, _, _, _, _, _, _, _, _, _, _, _, _, _, _, _, _, rfl⟩
    · have b3 : (A : Int) < P := by omega
      obtain ⟨b2, g1, g2⟩ := two (.inr (by simp only [hP, hR, hA]; exact hPA))
      have w1 : IntKind.u64.wrap ((q : Int) - 1) = (Z : Int) := by rw [wrap_u64 _ (by omega) (by omega)]; omega
      unfold c60b0 at hO
      simp [evCode, evOps, evOne, evOp, evPur, evEff, evPur.chunks, fillP, AOp.isEff, AO.ev, putP, PV.cells, PV.leaf, getB, getM, mapE, iterE, keyC, mapRows, mfind, eq1, eqL, scal, binP, unP, minP, maxP, foldP, PV.lt, PV.lt.ltL, endP, expoAll, expoG, expo, expo.expoL, frIds, frIds.frIdsL, nodupN, kill, cls, clsFuel, resO, RV.get, loadP, evC_p, evC_s, endS, endT, rowsOf, callP, thinL, unfr, unfr.unfrL, PV.noMem, PV.noMem.noMemL, optI, mapO, norm, trimT, trimB, forget, hasN, blksLt, List.set, softChk, softGo, softRd, effTg, rdP, SD2, b1, w1, w2, w3, w4, w5, b3, b2] at hO
      rw [← hO]
      exact ⟨r', _, _, _, _, _, _, _, _, _, _, _, _, _, _, _, _, _, _, _, rfl⟩

theorem u_rest {u d q Y r P : Nat} (h : u * 4294967296 + d = P + r) (hP : q * Y = P) (hr : r < 18446744073709551616) :
    IntKind.u64.wrap (IntKind.u64.wrap (IntKind.u64.wrap ((u : Int) * 4294967296) + d) - IntKind.u64.wrap ((q : Int) * Y)) = (r : Int) := by
  have e : (q : Int) * Y = (P : Int) := by rw [← hP]; simp
  rw [e]
  simp only [wrap_u64']
  omega

theorem f60 (hi lo y : Nat) (hhi : hi < y) (hlo : lo < 18446744073709551616) (hy : y < 18446744073709551616) :
    evE Dg 60 [.int .u64 hi, .int .u64 lo, .int .u64 y] = some (.tup [.int .u64 (((hi * 18446744073709551616 + lo) / y : Nat) : Int), .int .u64 (((hi * 18446744073709551616 + lo) % y : Nat) : Int)]) := by
  have hy0 : ¬ y = 0 := by omega
  have a1 : ¬ y ≤ hi := by omega
  have a1' : ¬ (y : Int) ≤ hi := by omega
  by_cases h0 : hi = 0
  · subst h0
    have d1 := Nat.div_le_self lo y
    have d2 := Nat.mod_le lo y
    obtain ⟨D, hD⟩ := ex_eq (lo / y)
    obtain ⟨R, hR⟩ := ex_eq (lo % y)
    rw [hD] at d1
    have w1 : IntKind.u64.wrap ((lo : Int).tdiv y) = (D : Int) := by
      rw [Int.tdiv_eq_ediv_of_nonneg (by omega), ← Int.natCast_ediv, hD, wrap_u64 _ (by omega) (by omega)]
    have w1' : IntKind.u64.wrap ((lo : Int) / y) = (D : Int) := by
      rw [← Int.natCast_ediv, hD, wrap_u64 _ (by omega) (by omega)]
    have w2 : (lo : Int).tmod y = (R : Int) := by
      rw [Int.tmod_eq_emod_of_nonneg (by omega), ← Int.natCast_emod, hR]
    have w2' : (lo : Int) % y = (R : Int) := by rw [← Int.natCast_emod, hR]
    rw [Nat.zero_mul, Nat.zero_add, hD, hR]
    refine evE_intro 1 D60 rfl ?_
    unfold c60
    simp [evCode, evOps, evOne, evOp, evPur, evEff, evPur.chunks, fillP, AOp.isEff, AO.ev, putP, PV.cells, PV.leaf, getB, getM, mapE, iterE, keyC, mapRows, mfind, eq1, eqL, scal, binP, unP, minP, maxP, foldP, PV.lt, PV.lt.ltL, endP, expoAll, expoG, expo, expo.expoL, frIds, frIds.frIdsL, nodupN, kill, cls, clsFuel, resO, RV.get, loadP, evC_p, evC_s, endS, endT, rowsOf, callP, thinL, unfr, unfr.unfrL, PV.noMem, PV.noMem.noMemL, optI, mapO, norm, trimT, trimB, forget, hasN, blksLt, List.set, softChk, softGo, softRd, effTg, rdP, hy0, w1, w1', w2, w2']
  · have h0' : ¬ (hi : Int) = 0 := by omega
    obtain ⟨s, hs1, hs2, hs3, hs4⟩ := f66 y (by omega) hy
    obtain ⟨l1, l2, l3, l4⟩ := long_div hs2 hlo hhi hs3
    obtain ⟨Y, hY⟩ := ex_eq (y * 2 ^ s)
    obtain ⟨H, hH⟩ := ex_eq (hi * 2 ^ s)
    obtain ⟨Lh, hLh⟩ := ex_eq (lo / 2 ^ (64 - s))
    obtain ⟨Ll, hLl⟩ := ex_eq (lo * 2 ^ s % 18446744073709551616)
    obtain ⟨u, hu⟩ := ex_eq (H + Lh)
    rw [hY] at hs3 hs4 l1
    rw [hH, hLh, hLl, hu] at l4
    rw [hH, hLh, hu] at l1
    rw [hLh] at l2
    rw [hH] at l3
    obtain ⟨y1, hy1⟩ := ex_eq (Y / 4294967296)
    obtain ⟨y0, hy0'⟩ := ex_eq (Y % 4294967296)
    obtain ⟨d1, hd1⟩ := ex_eq (Ll / 4294967296)
    obtain ⟨d0, hd0⟩ := ex_eq (Ll % 4294967296)
    have hLl2 : Ll < 18446744073709551616 := by omega
    have hd1l : d1 < 4294967296 := by rw [← hd1]; exact Nat.div_lt_of_lt_mul hLl2
    have hd0l : d0 < 4294967296 := by rw [← hd0]; exact Nat.mod_lt _ (by decide)
    have c1 : DigC Y y1 y0 u d1 := digC_of hy1 hy0' hs4 hs3 l1 hd1l
    obtain ⟨r1, hr1⟩ := ex_eq ((u * 4294967296 + d1) % Y)
    obtain ⟨q1, hq1⟩ := ex_eq ((u * 4294967296 + d1) / Y)
    have hr1l : r1 < Y := by rw [← hr1]; exact Nat.mod_lt _ (by omega)
    have c0 : DigC Y y1 y0 r1 d0 := digC_of hy1 hy0' hs4 hs3 hr1l hd0l
    obtain ⟨q0, hq0⟩ := ex_eq ((r1 * 4294967296 + d0) / Y)
    obtain ⟨r0, hr0⟩ := ex_eq ((r1 * 4294967296 + d0) % Y)
    have hr0l : r0 < Y := by rw [← hr0]; exact Nat.mod_lt _ (by omega)
    have q1l : q1 < 4294967296 := by rw [← hq1]; exact dig_lt l1 hd1l
    have q0l : q0 < 4294967296 := by rw [← hq0]; exact dig_lt hr1l hd0l
    obtain ⟨k1, k2⟩ := div_digits (N := (hi * 18446744073709551616 + lo) * 2 ^ s) (by rw [← l4]; omega) hq1.symm hr1.symm hq0.symm (by omega : 0 < Y)
    have hps : 0 < 2 ^ s := Nat.pow_pos (by omega)
    rw [← hY, Nat.mul_div_mul_right _ _ hps] at k1
    rw [hr0, ← hY, Nat.mul_mod_mul_right] at k2
    have k3 : r0 / 2 ^ s = (hi * 18446744073709551616 + lo) % y := by rw [k2]; exact Nat.mul_div_cancel _ hps
    rw [← k1, ← k3]
    -- the operations
    have mx : Nat.min 32 IntKind.u64.bits = 32 := rfl
    have mx' : min 32 IntKind.u64.bits = 32 := rfl
    have m1 : Nat.min s 64 = s := Nat.min_eq_left (by omega)
    have mb : Nat.min s IntKind.u64.bits = s := Nat.min_eq_left (by show s ≤ 64; omega)
    have mb' : min s IntKind.u64.bits = s := mb
    have b1 : IntKind.u64.wrap (s : Int) = s := wrap_u64 _ (by omega) (by omega)
    have p2 : ((2 : Int) ^ s) = ((2 ^ s : Nat) : Int) := by simp
    have b2 : IntKind.u64.wrap ((y : Int) * 2 ^ s) = Y := by rw [p2]; exact u_mul y (2 ^ s) Y hY hs3
    have b3 := u_shr Y y1 hy1
    have b4 := u_and Y y0 hs3 hy0'
    have b5 : IntKind.u64.wrap ((hi : Int) * 2 ^ s) = H := by rw [p2]; exact u_mul hi (2 ^ s) H hH l3
    have b6 : IntKind.u64.wrap (64 - (s : Int)) = ((64 - s : Nat) : Int) := by rw [wrap_u64 _ (by omega) (by omega)]; omega
    have mc : Nat.min (64 - s) IntKind.u64.bits = 64 - s := Nat.min_eq_left (by show 64 - s ≤ 64; omega)
    have mc' : min (64 - s) IntKind.u64.bits = 64 - s := mc
    have p3 : ((2 : Int) ^ (64 - s)) = ((2 ^ (64 - s) : Nat) : Int) := by simp
    have b7 : Int.fdiv (lo : Int) (2 ^ (64 - s)) = Lh := by rw [p3, Int.fdiv_eq_ediv_of_nonneg _ (Int.natCast_nonneg _), ← Int.natCast_ediv, hLh]
    have b8 := u_or hi Lh s H u hH hu (by omega) l2
    have b9 : IntKind.u64.wrap ((lo : Int) * 2 ^ s) = Ll := by
      rw [p2, ← Int.natCast_mul, wrap_u64', ← hLl]; simp
    have b10 := u_shr Ll d1 hd1
    have b11 := u_and Ll d0 hLl2 hd0
    have ey1 : ¬ y1 = 0 := by have := c1.hh; omega
    obtain ⟨Q, hQ⟩ := ex_eq (u / y1)
    obtain ⟨M, hM⟩ := ex_eq (u % y1)
    have hQM := Nat.div_add_mod u y1
    rw [hQ, hM] at hQM
    have b12 : IntKind.u64.wrap ((u : Int).tdiv y1) = Q := by
      rw [Int.tdiv_eq_ediv_of_nonneg (by omega), ← Int.natCast_ediv, hQ, wrap_u64 _ (by omega) (by rw [← hQ]; have := Nat.div_le_self u y1; omega)]
    have b12' : IntKind.u64.wrap ((u : Int) / y1) = Q := by
      rw [← Int.natCast_ediv, hQ, wrap_u64 _ (by omega) (by rw [← hQ]; have := Nat.div_le_self u y1; omega)]
    obtain ⟨QY, hQY⟩ := ex_eq (Q * y1)
    rw [Nat.mul_comm, hQY] at hQM
    have b13 := u_mul Q y1 QY hQY (by omega)
    have b14 := u_sub u QY M hQM (by omega)
    obtain ⟨X, hX⟩ := ex_eq (endP c60.res (evCode (evC Dg) 4294967300 c60.code ⟨[.int .u64 hi, .int .u64 lo, .int .u64 y] ++ List.replicate (c60.nt - c60.np) .top, []⟩))
    refine evE_intro 4294967300 D60 rfl (hX.trans ?_)
    unfold c60 at hX
    simp [evCode, evOps, evOne, evOp, evPur, evEff, evPur.chunks, fillP, AOp.isEff, AO.ev, putP, PV.cells, PV.leaf, getB, getM, mapE, iterE, keyC, mapRows, mfind, eq1, eqL, scal, binP, unP, minP, maxP, foldP, PV.lt, PV.lt.ltL, endP, expoAll, expoG, expo, expo.expoL, frIds, frIds.frIdsL, nodupN, kill, cls, clsFuel, resO, RV.get, loadP, evC_p, evC_s, endS, endT, rowsOf, callP, thinL, unfr, unfr.unfrL, PV.noMem, PV.noMem.noMemL, optI, mapO, norm, trimT, trimB, forget, hasN, blksLt, List.set, softChk, softGo, softRd, effTg, rdP, hy0, a1, a1', h0, h0', hs1, b1, b2, b3, b4, b5, b6, mx, mx', mb, mb', mc, mc', b7, b8, b9, b10, b11, ey1, b12, b12', b13, b14] at hX
    generalize hE : evLoop _ _ _ _ _ = E at hX
    obtain ⟨x, i1, i2, i3⟩ := loopD1 Y s y1 y0 u d1 d0 c1 hs3 4294967300 (by decide) _ _ hE (by rw [hQ, hM]; simp [evCode, evOps, evOne, evOp, evPur, evEff, evPur.chunks, fillP, AOp.isEff, AO.ev, putP, PV.cells, PV.leaf, getB, getM, mapE, iterE, keyC, mapRows, mfind, eq1, eqL, scal, binP, unP, minP, maxP, foldP, PV.lt, PV.lt.ltL, endP, expoAll, expoG, expo, expo.expoL, frIds, frIds.frIdsL, nodupN, kill, cls, clsFuel, resO, RV.get, loadP, evC_p, evC_s, endS, endT, rowsOf, callP, thinL, unfr, unfr.unfrL, PV.noMem, PV.noMem.noMemL, optI, mapO, norm, trimT, trimB, forget, hasN, blksLt, List.set, softChk, softGo, softRd, effTg, rdP, SD1])
    obtain ⟨r, a0, a1, a2, a3, a4, a5, a6, a7, a8, a9, a10, a11, a12, a13, a14, a15, a16, a17, a18, g1⟩ := exitD1 Y s y1 y0 u d1 d0 c1 4294967300 x i1 i2
    rw [i3, g1, hq1] at hX
    obtain ⟨P1, hP1⟩ := ex_eq (q1 * Y)
    have k4 : u * 4294967296 + d1 = P1 + r1 := by
      have h := Nat.div_add_mod (u * 4294967296 + d1) Y
      rw [hq1, hr1, Nat.mul_comm Y, hP1] at h
      exact h.symm
    have v1 := u_rest k4 hP1 (by omega)
    obtain ⟨Q2, hQ2⟩ := ex_eq (r1 / y1)
    obtain ⟨M2, hM2⟩ := ex_eq (r1 % y1)
    have hQM2 := Nat.div_add_mod r1 y1
    rw [hQ2, hM2] at hQM2
    have v2 : IntKind.u64.wrap ((r1 : Int).tdiv y1) = Q2 := by
      rw [Int.tdiv_eq_ediv_of_nonneg (by omega), ← Int.natCast_ediv, hQ2, wrap_u64 _ (by omega) (by rw [← hQ2]; have := Nat.div_le_self r1 y1; omega)]
    have v2' : IntKind.u64.wrap ((r1 : Int) / y1) = Q2 := by
      rw [← Int.natCast_ediv, hQ2, wrap_u64 _ (by omega) (by rw [← hQ2]; have := Nat.div_le_self r1 y1; omega)]
    obtain ⟨QY2, hQY2⟩ := ex_eq (Q2 * y1)
    rw [Nat.mul_comm, hQY2] at hQM2
    have v3 := u_mul Q2 y1 QY2 hQY2 (by omega)
    have v4 := u_sub r1 QY2 M2 hQM2 (by omega)
    unfold c60r0 at hX
    simp [evCode, evOps, evOne, evOp, evPur, evEff, evPur.chunks, fillP, AOp.isEff, AO.ev, putP, PV.cells, PV.leaf, getB, getM, mapE, iterE, keyC, mapRows, mfind, eq1, eqL, scal, binP, unP, minP, maxP, foldP, PV.lt, PV.lt.ltL, endP, expoAll, expoG, expo, expo.expoL, frIds, frIds.frIdsL, nodupN, kill, cls, clsFuel, resO, RV.get, loadP, evC_p, evC_s, endS, endT, rowsOf, callP, thinL, unfr, unfr.unfrL, PV.noMem, PV.noMem.noMemL, optI, mapO, norm, trimT, trimB, forget, hasN, blksLt, List.set, softChk, softGo, softRd, effTg, rdP, SX1, v1, ey1, v2, v2', v3, v4] at hX
    generalize hE2 : evLoop _ _ _ _ _ = E2 at hX
    obtain ⟨x2, j1, j2, j3⟩ := loopD2 Y s y1 y0 q1 r1 d0 c0 hs3 4294967300 (by decide) _ _ hE2 (by rw [hQ2, hM2]; simp [evCode, evOps, evOne, evOp, evPur, evEff, evPur.chunks, fillP, AOp.isEff, AO.ev, putP, PV.cells, PV.leaf, getB, getM, mapE, iterE, keyC, mapRows, mfind, eq1, eqL, scal, binP, unP, minP, maxP, foldP, PV.lt, PV.lt.ltL, endP, expoAll, expoG, expo, expo.expoL, frIds, frIds.frIdsL, nodupN, kill, cls, clsFuel, resO, RV.get, loadP, evC_p, evC_s, endS, endT, rowsOf, callP, thinL, unfr, unfr.unfrL, PV.noMem, PV.noMem.noMemL, optI, mapO, norm, trimT, trimB, forget, hasN, blksLt, List.set, softChk, softGo, softRd, effTg, rdP, SD2])
    obtain ⟨r', b0, b1, b2, b3, b4, b5, b6, b7, b8, b9, b10, b11, b12, b13, b14, b15, b16, b17, b18, g2⟩ := exitD2 Y s y1 y0 q1 r1 d0 c0 4294967300 x2 j1 j2
    rw [j3, g2, hq0] at hX
    obtain ⟨P0, hP0⟩ := ex_eq (q0 * Y)
    have k5 : r1 * 4294967296 + d0 = P0 + r0 := by
      have h := Nat.div_add_mod (r1 * 4294967296 + d0) Y
      rw [hq0, hr0, Nat.mul_comm Y, hP0] at h
      exact h.symm
    have v5 := u_rest k5 hP0 (by omega)
    obtain ⟨A1, hA1⟩ := ex_eq (q1 * 4294967296)
    have v6 : IntKind.u64.wrap ((q1 : Int) * 4294967296) = A1 := by rw [wrap_u64 _ (by omega) (by omega)]; omega
    obtain ⟨A2, hA2⟩ := ex_eq (A1 + q0)
    have v7 := u_add A1 q0 A2 hA2 (by omega)
    obtain ⟨R2, hR2⟩ := ex_eq (r0 / 2 ^ s)
    have v8 : Int.fdiv (r0 : Int) (2 ^ s) = R2 := by rw [p2, Int.fdiv_eq_ediv_of_nonneg _ (Int.natCast_nonneg _), ← Int.natCast_ediv, hR2]
    rw [hA1, hA2, hR2]
    simp [evCode, evOps, evOne, evOp, evPur, evEff, evPur.chunks, fillP, AOp.isEff, AO.ev, putP, PV.cells, PV.leaf, getB, getM, mapE, iterE, keyC, mapRows, mfind, eq1, eqL, scal, binP, unP, minP, maxP, foldP, PV.lt, PV.lt.ltL, endP, expoAll, expoG, expo, expo.expoL, frIds, frIds.frIdsL, nodupN, kill, cls, clsFuel, resO, RV.get, loadP, evC_p, evC_s, endS, endT, rowsOf, callP, thinL, unfr, unfr.unfrL, PV.noMem, PV.noMem.noMemL, optI, mapO, norm, trimT, trimB, forget, hasN, blksLt, List.set, softChk, softGo, softRd, effTg, rdP, SX2, v5, v6, v7, mb, mb', v8] at hX
    exact hX.symm
end Go.Proofs.YtddglikicokpeaaDoor
