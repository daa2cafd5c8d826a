/- ring: RingMakes, of pure arguments. -/
import Derived.Test.YthoncigfbhinlaaRgA
import Derived.Test.YthoncigfbhinlaaAw
import Derived.Test.YthoncigfbhinlaaEvIn
namespace Go.Proofs.Ythoncigfbhinlaa
open Go Go.RowKit
set_option linter.unusedVariables false
set_option linter.unusedSimpArgs false
set_option maxHeartbeats 8000000

set_option maxRecDepth 100000 in
theorem f3 (z p : Int) : evE Dg 3 [.int .i64 z, .int .i64 p] = some (.bool true) := by
  have aw := f14
  have h9 := f9 z p
  have h10 := f10 z p
  have small : (∃ e : Int, ¬ e = 0 ∧ newR z p = (eR 0 .nilS 0 0 0 0, e)) → evE Dg 3 [.int .i64 z, .int .i64 p] = some (.bool true) := by
    rintro ⟨e, he, h⟩
    rw [h] at h9 h10
    simp only [eR] at h9 h10
    refine evE_intro 3 D3 rfl ?_
    unfold c3
    simp [evCode, evOps, evOne, evOp, evPur, evEff, evPur.chunks, fillP, AOp.isEff, AO.ev, putP, PV.cells, PV.leaf, getB, getM, mapE, keyC, mapRows, mfind, eq1, eqL, scal, binP, unP, minP, maxP, foldP, PV.lt, PV.lt.ltL, endP, expoAll, expo, expo.expoL, frIds, frIds.frIdsL, nodupN, kill, cls, clsFuel, resO, RV.get, loadP, evC_p, evC_s, endS, endT, rowsOf, callP, thinL, unfr, unfr.unfrL, PV.noMem, PV.noMem.noMemL, optI, mapO, norm, trimT, trimB, forget, hasN, blksLt, List.set, h9, h10, he, aw]
  by_cases h1 : z < 16
  · exact small ⟨2, by decide, by unfold newR; rw [if_pos h1]⟩
  by_cases h2 : 65536 < z
  · exact small ⟨2, by decide, by unfold newR; rw [if_neg h1, if_pos h2]⟩
  by_cases hp : okP p
  · obtain ⟨n, rfl⟩ : ∃ n : Nat, z = n := ⟨z.toNat, by omega⟩
    have hn : newR n p = (eR p (.sl true 1 (zer n)) 0 0 0 0, 0) := by
      unfold newR
      rw [if_neg h1, if_neg h2]
      rcases hp with rfl | rfl <;> simp
    rw [hn] at h9 h10
    have b1 := f11e true p n (by omega) (by omega) hp
    have b2 := f12e true p n (by omega) (by omega) hp
    have b3 := f13e true p n (by omega) (by omega) hp
    have hz := zer_len n
    simp only [eR] at h9 h10 b1 b2 b3
    refine evE_intro 3 D3 rfl ?_
    unfold c3
    simp [evCode, evOps, evOne, evOp, evPur, evEff, evPur.chunks, fillP, AOp.isEff, AO.ev, putP, PV.cells, PV.leaf, getB, getM, mapE, keyC, mapRows, mfind, eq1, eqL, scal, binP, unP, minP, maxP, foldP, PV.lt, PV.lt.ltL, endP, expoAll, expo, expo.expoL, frIds, frIds.frIdsL, nodupN, kill, cls, clsFuel, resO, RV.get, loadP, evC_p, evC_s, endS, endT, rowsOf, callP, thinL, unfr, unfr.unfrL, PV.noMem, PV.noMem.noMemL, optI, mapO, norm, trimT, trimB, forget, hasN, blksLt, List.set, h9, h10, b1, b2, b3, hz, aw]
  · exact small ⟨1, by decide, by
      unfold newR
      rw [if_neg h1, if_neg h2, if_neg (fun h => hp (.inl h)), if_neg (fun h => hp (.inr h))]⟩
theorem law3 (ps : List PV) (h : ArgL Try.prog 12 [3, 22] ps) : evE Dg 3 ps = some (.bool true) := by
  obtain ⟨p, q, rfl, h1, h2⟩ := argL2 h
  obtain ⟨a, rfl, _⟩ := argT_int Try.underlying3 h1
  obtain ⟨b, rfl, _⟩ := argT_int Try.underlying22 h2
  exact f3 a b
end Go.Proofs.Ythoncigfbhinlaa
