/- column: ColumnRepeats for every input. -/
import Derived.Test.YtimipbbcmiblkaaCpI
namespace Go.Proofs.Ytimipbbcmiblkaa
open Go Go.RowKit
set_option linter.unusedVariables false
set_option linter.unusedSimpArgs false
set_option maxHeartbeats 8000000

set_option maxRecDepth 100000 in
theorem f7_no (k : Int) (v : Val) (n : Nat) (hn : n ≤ 65535) (hi : i64V v) (hv : valV k v = 0) (hs : v.2.2.length ≤ 300) (ht : typB k = false) : evE Dg 7 [.int .i64 k, vP v, .int .u16 (n : Int)] = some (.bool true) := by
  have h10 := f10
  have h8 := f8 k v.1 v.2.1 v.2.2
  change _ = some (PV.int .i64 (valV k v)) at h8
  rw [hv] at h8
  have hE1 : ∀ l, encP k l = noP 1 := fun l => by unfold encP; rw [if_neg (by rw [ht]; simp)]
  have h12a := f12 true k [v, nulV, v] (fun w hw => by
    simp only [List.mem_cons, List.not_mem_nil, or_false] at hw
    rcases hw with rfl | rfl | rfl
    · exact hi
    · simp [i64V, nulV]
    · exact hi)
  rw [hE1] at h12a
  have hL := loop7 v k n 1 [.int .i64 0, .int .i64 0, .nilS] (n % 5000 + 1) (n % 5000 + 1) hn (by omega)
  generalize n % 5000 = m at *
  have hlen : (List.replicate m v).length = m := List.length_replicate
  have h12b := f12 false k (List.replicate m v) (fun w hw => by
    rw [List.mem_replicate] at hw
    rw [hw.2]
    exact hi)
  rw [hE1] at h12b
  have lV := vRows_len (List.replicate m v)
  rw [hlen] at lV
  obtain ⟨R, hR⟩ := ex_eq (vRows (List.replicate m v))
  have tR : R.take m = R := List.take_of_length_le (by rw [← hR, lV]; exact Nat.le_refl _)
  rw [hR] at lV
  simp only [eV, hR, noP] at h12b
  simp only [eV, vRows, List.map_cons, List.map_nil, vRow, nulV, noP] at h12a
  simp only [vV] at h8
  have hs' : ¬ (300 : Int) < v.2.2.length := by omega
  have hb0 : ∀ b, Nat.blt b 0 = false := fun b => by cases b <;> rfl
  have b1 : Nat.blt 1 3 = true := rfl
  have b2 : Nat.blt 2 3 = true := rfl
  have b3 : Nat.blt 0 3 = true := rfl
  have r0 : vRows [] = [] := rfl
  refine evE_intro (m + 1) D7 rfl ?_
  unfold c7
  simp [evCode, evOps, evOne, evOp, evPur, evEff, evPur.chunks, fillP, AOp.isEff, AO.ev, putP, PV.cells, PV.leaf, getB, getM, mapE, iterE, keyC, mapRows, mfind, eq1, eqL, scal, binP, unP, minP, maxP, foldP, PV.lt, PV.lt.ltL, endP, expoAll, expoG, expo, expo.expoL, frIds, frIds.frIdsL, nodupN, kill, cls, clsFuel, resO, RV.get, loadP, evC_p, evC_s, endS, endT, rowsOf, callP, thinL, unfr, unfr.unfrL, PV.noMem, PV.noMem.noMemL, optI, mapO, norm, trimT, trimB, forget, hasN, blksLt, List.set, softChk, softGo, softRd, effTg, rdP, vP, h10, h8, hs', h12a, hb0]
  generalize hE : evLoop _ _ _ _ _ = E
  obtain ⟨out, rfl, z40, z41, z42, z43, z44, rfl⟩ := hL _ E hE (by simp [evCode, evOps, evOne, evOp, evPur, evEff, evPur.chunks, fillP, AOp.isEff, AO.ev, putP, PV.cells, PV.leaf, getB, getM, mapE, iterE, keyC, mapRows, mfind, eq1, eqL, scal, binP, unP, minP, maxP, foldP, PV.lt, PV.lt.ltL, endP, expoAll, expoG, expo, expo.expoL, frIds, frIds.frIdsL, nodupN, kill, cls, clsFuel, resO, RV.get, loadP, evC_p, evC_s, endS, endT, rowsOf, callP, thinL, unfr, unfr.unfrL, PV.noMem, PV.noMem.noMemL, optI, mapO, norm, trimT, trimB, forget, hasN, blksLt, List.set, softChk, softGo, softRd, effTg, rdP, S7, vbx, b1, b2, b3, r0])
  unfold c7r0
  simp [evCode, evOps, evOne, evOp, evPur, evEff, evPur.chunks, fillP, AOp.isEff, AO.ev, putP, PV.cells, PV.leaf, getB, getM, mapE, iterE, keyC, mapRows, mfind, eq1, eqL, scal, binP, unP, minP, maxP, foldP, PV.lt, PV.lt.ltL, endP, expoAll, expoG, expo, expo.expoL, frIds, frIds.frIdsL, nodupN, kill, cls, clsFuel, resO, RV.get, loadP, evC_p, evC_s, endS, endT, rowsOf, callP, thinL, unfr, unfr.unfrL, PV.noMem, PV.noMem.noMemL, optI, mapO, norm, trimT, trimB, forget, hasN, blksLt, List.set, softChk, softGo, softRd, effTg, rdP, vbx, hR, lV, tR, h12b, hb0]
theorem f7 (k : Int) (v : Val) (n : Nat) (hn : n ≤ 65535) (hi : i64V v) : evE Dg 7 [.int .i64 k, vP v, .int .u16 (n : Int)] = some (.bool true) := by
  have h10 := f10
  have h8 := f8 k v.1 v.2.1 v.2.2
  change _ = some (PV.int .i64 (valV k v)) at h8
  by_cases hs : v.2.2.length ≤ 300
  · by_cases hv : valV k v = 0
    · cases ht : typB k with
      | true => exact f7_typ k v n hn hi hv hs ht
      | false => exact f7_no k v n hn hi hv hs ht
    · have hs' : ¬ (300 : Int) < v.2.2.length := by omega
      simp only [vV] at h8
      refine evE_intro 1 D7 rfl ?_
      unfold c7
      simp [evCode, evOps, evOne, evOp, evPur, evEff, evPur.chunks, fillP, AOp.isEff, AO.ev, putP, PV.cells, PV.leaf, getB, getM, mapE, iterE, keyC, mapRows, mfind, eq1, eqL, scal, binP, unP, minP, maxP, foldP, PV.lt, PV.lt.ltL, endP, expoAll, expoG, expo, expo.expoL, frIds, frIds.frIdsL, nodupN, kill, cls, clsFuel, resO, RV.get, loadP, evC_p, evC_s, endS, endT, rowsOf, callP, thinL, unfr, unfr.unfrL, PV.noMem, PV.noMem.noMemL, optI, mapO, norm, trimT, trimB, forget, hasN, blksLt, List.set, softChk, softGo, softRd, effTg, rdP, vP, h10, h8, hs', hv]
  · have hs' : (300 : Int) < v.2.2.length := by omega
    refine evE_intro 1 D7 rfl ?_
    unfold c7
    simp [evCode, evOps, evOne, evOp, evPur, evEff, evPur.chunks, fillP, AOp.isEff, AO.ev, putP, PV.cells, PV.leaf, getB, getM, mapE, iterE, keyC, mapRows, mfind, eq1, eqL, scal, binP, unP, minP, maxP, foldP, PV.lt, PV.lt.ltL, endP, expoAll, expoG, expo, expo.expoL, frIds, frIds.frIdsL, nodupN, kill, cls, clsFuel, resO, RV.get, loadP, evC_p, evC_s, endS, endT, rowsOf, callP, thinL, unfr, unfr.unfrL, PV.noMem, PV.noMem.noMemL, optI, mapO, norm, trimT, trimB, forget, hasN, blksLt, List.set, softChk, softGo, softRd, effTg, rdP, vP, h10, hs']
theorem wf16 {i : Int} (h : (Lit.int .u16 i).wf = true) : 0 ≤ i ∧ i ≤ 65535 := by
  simp [Lit.wf, IntKind.min, IntKind.max, IntKind.signed, IntKind.bits] at h
  omega
set_option maxRecDepth 100000 in
theorem in_val2 {d : Nat} {p : PV} (h : ArgT Try.prog (d + 2) 24 p) : ∃ v : Val, p = vP v ∧ i64V v := by
  obtain ⟨ps, rfl, h2⟩ := argT_struct Try.underlying24 h
  have hf := ht_struct Try.underlying24 h2
  obtain ⟨p1, q1, rfl, a1, b1⟩ := htf_cons hf
  obtain ⟨p2, q2, rfl, a2, b2⟩ := htf_cons b1
  obtain ⟨p3, q3, rfl, a3, b3⟩ := htf_cons b2
  obtain rfl := htf_nil b3
  obtain ⟨u, rfl, w1⟩ := ht_int Try.underlying22 a1
  obtain ⟨v, rfl, w2⟩ := ht_int Try.underlying3 a2
  obtain ⟨s, rfl, w3⟩ := ht_string Try.underlying9 a3
  exact ⟨(u, v, s), rfl, wf64 w2⟩
theorem in_u16 {d : Nat} {p : PV} (h : ArgT Try.prog (d + 1) 43 p) : ∃ n : Nat, p = .int .u16 (n : Int) ∧ n ≤ 65535 := by
  obtain ⟨t, rfl, w⟩ := argT_int Try.underlying43 h
  obtain ⟨w0, w1⟩ := wf16 w
  exact ⟨t.toNat, by rw [Int.toNat_of_nonneg w0], by omega⟩
theorem law7 (ps : List PV) (h : ArgL Try.prog 12 [22, 24, 43] ps) : evE Dg 7 ps = some (.bool true) := by
  obtain ⟨p, q, r, rfl, h1, h2, h3⟩ := argL3 h
  obtain ⟨k, rfl⟩ := in_kind h1
  obtain ⟨v, rfl, hi⟩ := in_val2 h2
  obtain ⟨n, rfl, hn⟩ := in_u16 h3
  exact f7 k v n hn hi
end Go.Proofs.Ytimipbbcmiblkaa
