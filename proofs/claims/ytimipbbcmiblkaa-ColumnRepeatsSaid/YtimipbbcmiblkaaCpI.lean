/- column: ColumnRepeats, whole. -/
import Derived.Test.YtimipbbcmiblkaaCpH
namespace Go.Proofs.Ytimipbbcmiblkaa
open Go Go.RowKit
set_option linter.unusedVariables false
set_option linter.unusedSimpArgs false
set_option maxHeartbeats 8000000

def nulV : Val := (0, 0, [])
set_option maxRecDepth 100000 in
theorem f7_typ (k : Int) (v : Val) (n : Nat) (hn : n ≤ 65535) (hi : i64V v) (hv : valV k v = 0) (hs : v.2.2.length ≤ 300) (ht : typB k = true) : evE Dg 7 [.int .i64 k, vP v, .int .u16 (n : Int)] = some (.bool true) := by
  have h10 := f10
  have h8 := f8 k v.1 v.2.1 v.2.2
  change _ = some (PV.int .i64 (valV k v)) at h8
  rw [hv] at h8
  have ok := valV_ok hv hi
  have h12a := f12 true k [v, nulV, v] (fun w hw => by
    simp only [List.mem_cons, List.not_mem_nil, or_false] at hw
    rcases hw with rfl | rfl | rfl
    · exact hi
    · simp [i64V, nulV]
    · exact hi)
  rw [encP_ok ht (fun w hw => by
    simp only [List.mem_cons, List.not_mem_nil, or_false] at hw
    rcases hw with rfl | rfl | rfl
    · exact hv
    · simp [valV, valE, nulV]
    · exact hv) (by simp)] at h12a
  have hne := short_ne k [v, nulV, v]
  generalize short k [v, nulV, v] = B1 at *
  have hL := loop7 v k n 0 [.int .i64 k, .int .i64 3, .sl false 1 (bR B1)] (n % 5000 + 1) (n % 5000 + 1) hn (by omega)
  have hm5 : n % 5000 < 5000 := Nat.mod_lt _ (by omega)
  generalize n % 5000 = m at *
  have hl : ∀ w ∈ List.replicate m v, valV k w = 0 ∧ i64V w := fun w hw => by
    rw [List.mem_replicate] at hw
    rw [hw.2]
    exact ⟨hv, hi⟩
  have hlen : (List.replicate m v).length = m := List.length_replicate
  have h12b := f12 false k (List.replicate m v) (fun w hw => (hl w hw).2)
  rw [encP_ok ht (fun w hw => (hl w hw).1) (by omega)] at h12b
  have hb1 := short_run k (List.replicate m v)
  have hb2 := runB_rep v m hm5 ok
  have hsm : smV v ≤ 400 := by
    unfold smV
    have := ok.2.2
    split <;> split <;> omega
  have h14 := f14_ok k (List.replicate m v) ht hl (by omega) (by omega)
  rw [hlen] at h14 h12b
  generalize short k (List.replicate m v) = B2 at *
  have lB1 := bR_len B1
  have lB2 := bR_len B2
  have nmB := bR_nm B2
  have lV := vRows_len (List.replicate m v)
  rw [hlen] at lV
  obtain ⟨R, hR⟩ := ex_eq (vRows (List.replicate m v))
  have tR : R.take m = R := List.take_of_length_le (by rw [← hR, lV]; exact Nat.le_refl _)
  rw [hR] at lV
  have nmR : PV.noMem.noMemLL R = true := by rw [← hR]; exact vRows_nm _
  simp only [eV, hR] at h12b
  simp only [hR, pP] at h14
  simp only [eV, vRows, List.map_cons, List.map_nil, vRow, nulV] at h12a
  simp only [vV] at h8
  have hs' : ¬ (300 : Int) < v.2.2.length := by omega
  have hb0 : ∀ b, Nat.blt b 0 = false := fun b => by cases b <;> rfl
  have b1 : Nat.blt 1 3 = true := rfl
  have b2 : Nat.blt 2 3 = true := rfl
  have b3 : Nat.blt 0 3 = true := rfl
  have hne' : (0 : Int) < B1.length := by omega
  have r0 : vRows [] = [] := rfl
  refine evE_intro (m + 1) D7 rfl ?_
  unfold c7
  simp [evCode, evOps, evOne, evOp, evPur, evEff, evPur.chunks, fillP, AOp.isEff, AO.ev, putP, PV.cells, PV.leaf, getB, getM, mapE, iterE, keyC, mapRows, mfind, eq1, eqL, scal, binP, unP, minP, maxP, foldP, PV.lt, PV.lt.ltL, endP, expoAll, expoG, expo, expo.expoL, frIds, frIds.frIdsL, nodupN, kill, cls, clsFuel, resO, RV.get, loadP, evC_p, evC_s, endS, endT, rowsOf, callP, thinL, unfr, unfr.unfrL, PV.noMem, PV.noMem.noMemL, optI, mapO, norm, trimT, trimB, forget, hasN, blksLt, List.set, softChk, softGo, softRd, effTg, rdP, vP, h10, h8, hs', h12a, hb0]
  generalize hE : evLoop _ _ _ _ _ = E
  obtain ⟨out, rfl, z40, z41, z42, z43, z44, rfl⟩ := hL _ E hE (by simp [evCode, evOps, evOne, evOp, evPur, evEff, evPur.chunks, fillP, AOp.isEff, AO.ev, putP, PV.cells, PV.leaf, getB, getM, mapE, iterE, keyC, mapRows, mfind, eq1, eqL, scal, binP, unP, minP, maxP, foldP, PV.lt, PV.lt.ltL, endP, expoAll, expoG, expo, expo.expoL, frIds, frIds.frIdsL, nodupN, kill, cls, clsFuel, resO, RV.get, loadP, evC_p, evC_s, endS, endT, rowsOf, callP, thinL, unfr, unfr.unfrL, PV.noMem, PV.noMem.noMemL, optI, mapO, norm, trimT, trimB, forget, hasN, blksLt, List.set, softChk, softGo, softRd, effTg, rdP, S7, vbx, b1, b2, b3, r0])
  unfold c7r0
  have hsz : (B2.length : Int) ≤ 4 + smV v := by omega
  unfold smV at hsz
  by_cases c3 : v.1 = 3
  · rw [if_pos c3, if_neg (by omega)] at hsz
    have w1 : IntKind.i64.wrap (7 + (v.2.2.length : Int)) = 7 + (v.2.2.length : Int) := wrap_i64 _ (by omega) (by omega)
    have w2 : IntKind.i64.wrap 7 = 7 := rfl
    have q : (B2.length : Int) ≤ 7 + (v.2.2.length : Int) := by omega
    simp [evCode, evOps, evOne, evOp, evPur, evEff, evPur.chunks, fillP, AOp.isEff, AO.ev, putP, PV.cells, PV.leaf, getB, getM, mapE, iterE, keyC, mapRows, mfind, eq1, eqL, scal, binP, unP, minP, maxP, foldP, PV.lt, PV.lt.ltL, endP, expoAll, expoG, expo, expo.expoL, frIds, frIds.frIdsL, nodupN, kill, cls, clsFuel, resO, RV.get, loadP, evC_p, evC_s, endS, endT, rowsOf, callP, thinL, unfr, unfr.unfrL, PV.noMem, PV.noMem.noMemL, optI, mapO, norm, trimT, trimB, forget, hasN, blksLt, List.set, softChk, softGo, softRd, effTg, rdP, vbx, hR, lV, tR, nmB, nmR, h12b, h14, hb0, c3, w1, w2, q, lB1, lB2, hne', hne]
  · by_cases c1 : v.1 = 1
    · rw [if_neg c3, if_pos (.inl c1)] at hsz
      have w2 : IntKind.i64.wrap 15 = 15 := rfl
      have q : (B2.length : Int) ≤ 15 := by omega
      have q' : B2.length ≤ 15 := by omega
      simp [evCode, evOps, evOne, evOp, evPur, evEff, evPur.chunks, fillP, AOp.isEff, AO.ev, putP, PV.cells, PV.leaf, getB, getM, mapE, iterE, keyC, mapRows, mfind, eq1, eqL, scal, binP, unP, minP, maxP, foldP, PV.lt, PV.lt.ltL, endP, expoAll, expoG, expo, expo.expoL, frIds, frIds.frIdsL, nodupN, kill, cls, clsFuel, resO, RV.get, loadP, evC_p, evC_s, endS, endT, rowsOf, callP, thinL, unfr, unfr.unfrL, PV.noMem, PV.noMem.noMemL, optI, mapO, norm, trimT, trimB, forget, hasN, blksLt, List.set, softChk, softGo, softRd, effTg, rdP, vbx, hR, lV, tR, nmB, nmR, h12b, h14, hb0, c1, w2, q, q', lB1, lB2, hne', hne]
    · by_cases c2 : v.1 = 2
      · rw [if_neg c3, if_pos (.inr c2)] at hsz
        have w2 : IntKind.i64.wrap 15 = 15 := rfl
        have q : (B2.length : Int) ≤ 15 := by omega
        have q' : B2.length ≤ 15 := by omega
        simp [evCode, evOps, evOne, evOp, evPur, evEff, evPur.chunks, fillP, AOp.isEff, AO.ev, putP, PV.cells, PV.leaf, getB, getM, mapE, iterE, keyC, mapRows, mfind, eq1, eqL, scal, binP, unP, minP, maxP, foldP, PV.lt, PV.lt.ltL, endP, expoAll, expoG, expo, expo.expoL, frIds, frIds.frIdsL, nodupN, kill, cls, clsFuel, resO, RV.get, loadP, evC_p, evC_s, endS, endT, rowsOf, callP, thinL, unfr, unfr.unfrL, PV.noMem, PV.noMem.noMemL, optI, mapO, norm, trimT, trimB, forget, hasN, blksLt, List.set, softChk, softGo, softRd, effTg, rdP, vbx, hR, lV, tR, nmB, nmR, h12b, h14, hb0, c2, w2, q, q', lB1, lB2, hne', hne]
      · rw [if_neg c3, if_neg (by omega)] at hsz
        have q : (B2.length : Int) ≤ 5 := by omega
        have q' : B2.length ≤ 5 := by omega
        simp [evCode, evOps, evOne, evOp, evPur, evEff, evPur.chunks, fillP, AOp.isEff, AO.ev, putP, PV.cells, PV.leaf, getB, getM, mapE, iterE, keyC, mapRows, mfind, eq1, eqL, scal, binP, unP, minP, maxP, foldP, PV.lt, PV.lt.ltL, endP, expoAll, expoG, expo, expo.expoL, frIds, frIds.frIdsL, nodupN, kill, cls, clsFuel, resO, RV.get, loadP, evC_p, evC_s, endS, endT, rowsOf, callP, thinL, unfr, unfr.unfrL, PV.noMem, PV.noMem.noMemL, optI, mapO, norm, trimT, trimB, forget, hasN, blksLt, List.set, softChk, softGo, softRd, effTg, rdP, vbx, hR, lV, tR, nmB, nmR, h12b, h14, hb0, c3, c1, c2, q, q', lB1, lB2, hne', hne]
end Go.Proofs.Ytimipbbcmiblkaa
