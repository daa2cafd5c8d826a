/- MemoryOf. -/
import Derived.Test.YtalmhggbdfjalaaMmF
import Derived.Test.YtalmhggbdfjalaaMmH
import Derived.Test.YtalmhggbdfjalaaMmI
import Derived.Test.YtalmhggbdfjalaaAw
namespace Go.Proofs.Ytalmhggbdfjalaa
open Go Go.RowKit
set_option linter.unusedVariables false
set_option linter.unusedSimpArgs false
set_option maxHeartbeats 4000000

theorem mkB_st (e : Int) (t : Td) (r : List Td) : (mkB e t r).st = t.st := by unfold mkB; split <;> rfl
theorem allB_st (e : Int) : ∀ (l : List Td) (b : Bk), b ∈ allB e l → ∃ t ∈ l, b.st = t.st
  | [], b, h => by simp [allB] at h
  | t :: r, b, h => by
    unfold allB at h
    rcases List.mem_append.1 h with h | h
    · split at h
      · rw [List.mem_singleton] at h
        exact ⟨t, List.mem_cons_self .., by rw [h, mkB_st]⟩
      · cases h
    · obtain ⟨u, h1, h2⟩ := allB_st e r b h
      exact ⟨u, List.mem_cons_of_mem _ h1, h2⟩
theorem ofB_mem {l : List Td} {e : Int} {b : Bk} (h : b ∈ ofB l e) : b ∈ allB (endM l e) l ∧ b.f < b.e := by
  unfold ofB at h
  rw [(srtS_perm leB _).mem_iff, List.mem_filter] at h
  exact ⟨h.1, by simpa [keepB] using h.2⟩
theorem ofB_len (l : List Td) (e : Int) : (ofB l e).length ≤ l.length := by
  unfold ofB
  rw [srtS_len]
  exact Nat.le_trans (List.length_filter_le _ _) (allB_len _ l)
theorem small_st {l : List Td} (h : smallT l = true) : l.length ≤ 200 ∧ ∀ t ∈ l, t.st.length ≤ 60 := by
  unfold smallT fewS at h
  simp at h
  exact ⟨h.1, fun t ht => h.2 t ht⟩
set_option maxRecDepth 100000 in
theorem f3 (l : List Td) (e : Int) : evE Dg 3 [.sl false 10 (tRows l), .int .i64 e] = some (.bool true) := by
  have h8 := f8 l
  have h9 := f9
  refine evE_intro 1 D3 rfl ?_
  cases hs : smallT l with
  | false =>
    rw [hs] at h8
    unfold c3
    simp [evCode, evOps, evOne, evOp, evPur, evEff, evPur.chunks, fillP, AOp.isEff, AO.ev, putP, PV.cells, PV.leaf, getB, getM, mapE, iterE, keyC, mapRows, mfind, eq1, eqL, scal, binP, unP, minP, maxP, foldP, PV.lt, PV.lt.ltL, endP, expoAll, expoG, expo, expo.expoL, frIds, frIds.frIdsL, nodupN, kill, cls, clsFuel, resO, RV.get, loadP, evC_p, evC_s, endS, endT, rowsOf, callP, thinL, unfr, unfr.unfrL, PV.noMem, PV.noMem.noMemL, optI, mapO, norm, trimT, trimB, forget, hasN, blksLt, List.set, softChk, softGo, softRd, effTg, rdP, h8, h9]
  | true =>
    rw [hs] at h8
    obtain ⟨h1, h2⟩ := small_st hs
    have h11 := f11 l (by omega) e
    obtain ⟨p, h12, hp⟩ := f12 l (by omega) e
    have h10 := f10 (ofB l e) (by have := ofB_len l e; omega) (fun b hb => by
      obtain ⟨t, ht, e1⟩ := allB_st _ _ _ (ofB_mem hb).1
      rw [e1]
      have := h2 t ht
      omega)
    generalize bRows (ofB l e) = R at *
    rcases hp with rfl | rfl
    · unfold c3
      simp [evCode, evOps, evOne, evOp, evPur, evEff, evPur.chunks, fillP, AOp.isEff, AO.ev, putP, PV.cells, PV.leaf, getB, getM, mapE, iterE, keyC, mapRows, mfind, eq1, eqL, scal, binP, unP, minP, maxP, foldP, PV.lt, PV.lt.ltL, endP, expoAll, expoG, expo, expo.expoL, frIds, frIds.frIdsL, nodupN, kill, cls, clsFuel, resO, RV.get, loadP, evC_p, evC_s, endS, endT, rowsOf, callP, thinL, unfr, unfr.unfrL, PV.noMem, PV.noMem.noMemL, optI, mapO, norm, trimT, trimB, forget, hasN, blksLt, List.set, softChk, softGo, softRd, effTg, rdP, h8, h9, h10, h11, h12]
    · unfold c3
      simp [evCode, evOps, evOne, evOp, evPur, evEff, evPur.chunks, fillP, AOp.isEff, AO.ev, putP, PV.cells, PV.leaf, getB, getM, mapE, iterE, keyC, mapRows, mfind, eq1, eqL, scal, binP, unP, minP, maxP, foldP, PV.lt, PV.lt.ltL, endP, expoAll, expoG, expo, expo.expoL, frIds, frIds.frIdsL, nodupN, kill, cls, clsFuel, resO, RV.get, loadP, evC_p, evC_s, endS, endT, rowsOf, callP, thinL, unfr, unfr.unfrL, PV.noMem, PV.noMem.noMemL, optI, mapO, norm, trimT, trimB, forget, hasN, blksLt, List.set, softChk, softGo, softRd, effTg, rdP, h8, h9, h10, h11, h12]
theorem law3 (ps : List PV) (h : ArgL Try.prog 12 [22, 3] ps) : evE Dg 3 ps = some (.bool true) := by
  obtain ⟨p, q, rfl, h1, h2⟩ := argL2 h
  obtain ⟨l, rfl⟩ := in_timed h1
  obtain ⟨i, rfl, hw⟩ := argT_int Try.underlying3 h2
  exact f3 l i
end Go.Proofs.Ytalmhggbdfjalaa
