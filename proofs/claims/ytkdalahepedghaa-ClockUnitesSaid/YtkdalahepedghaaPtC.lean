/- Points of both, and the statement about them. -/
import Derived.Test.YtkdalahepedghaaPtA
namespace Go.Proofs.Ytkdalahepedghaa
open Go Go.RowKit
set_option maxHeartbeats 4000000
set_option linter.unusedVariables false
set_option linter.unusedSimpArgs false

theorem inc_ext : ∀ {a b : List Int}, a.Pairwise (· < ·) → b.Pairwise (· < ·) → (∀ x, x ∈ a ↔ x ∈ b) → a = b
  | [], [], _, _, _ => rfl
  | [], y :: b, _, _, h => by have := (h y).2 (by simp); simp at this
  | x :: a, [], _, _, h => by have := (h x).1 (by simp); simp at this
  | x :: a, y :: b, ha, hb, h => by
    have ha' := List.pairwise_cons.1 ha
    have hb' := List.pairwise_cons.1 hb
    have hxy : x = y := by
      have h1 := (h x).1 (by simp)
      have h2 := (h y).2 (by simp)
      rcases List.mem_cons.1 h1 with e | h1
      · exact e
      · rcases List.mem_cons.1 h2 with e | h2
        · exact e.symm
        · have := ha'.1 y h2
          have := hb'.1 x h1
          omega
    subst hxy
    rw [inc_ext ha'.2 hb'.2 (fun z => ?_)]
    have := h z
    constructor
    · intro hz
      rcases List.mem_cons.1 (this.1 (by simp [hz])) with e | q
      · have := ha'.1 z hz; omega
      · exact q
    · intro hz
      rcases List.mem_cons.1 (this.2 (by simp [hz])) with e | q
      · have := hb'.1 z hz; omega
      · exact q
set_option maxRecDepth 100000 in
theorem f18F (y : Bool) (l : List Sn) (z : Int) (hl : l.length ≤ 600) :
    ∃ out, evE Dg 18 [eNs y l, .int .i64 z] = some (.fr 1 (zRows out)) ∧ out.Pairwise (· < ·) ∧ out.length ≤ 2000 ∧ ∀ x, x ∈ out ↔ Pt z l x := by
  suffices h : ∃ v, evE Dg 18 [eNs y l, .int .i64 z] = some v ∧ ∃ out, v = .fr 1 (zRows out) ∧ out.Pairwise (· < ·) ∧ out.length ≤ 2000 ∧ ∀ x, x ∈ out ↔ Pt z l x by
    obtain ⟨v, h1, r, rfl, h2⟩ := h
    exact ⟨r, h1, h2⟩
  obtain ⟨m, m1, m2, m3⟩ := f26 y l (by omega)
  have T := turn18 z m (by omega)
  have hmem := fun x => @fold_pts z x m []
  generalize hzs : m.foldl (pts z) [] = zs at *
  have hPt : ∀ x, x ∈ sortZ zs ↔ Pt z l x := by
    intro x
    rw [(sortZ_perm zs).mem_iff, hmem x]
    unfold Pt
    constructor
    · rintro (h | ⟨s, hs, h⟩)
      · simp at h
      · exact ⟨s, (m3 s).1 hs, h⟩
    · rintro ⟨s, hs, h⟩
      exact .inr ⟨s, (m3 s).2 hs, h⟩
  refine evE_introX 1100 D18 rfl ?_
  simp only [eNs] at m1
  unfold c18
  simp [evCode, evOps, evOne, evOp, evPur, evEff, evPur.chunks, fillP, AOp.isEff, AO.ev, putP, PV.cells, PV.leaf, getB, getM, mapE, iterE, keyC, mapRows, mfind, eq1, eqL, scal, binP, unP, minP, maxP, foldP, PV.lt, PV.lt.ltL, endP, expoAll, expoG, expo, expo.expoL, frIds, frIds.frIdsL, nodupN, kill, cls, clsFuel, resO, RV.get, loadP, evC_p, evC_s, endS, endT, rowsOf, callP, thinL, unfr, unfr.unfrL, PV.noMem, PV.noMem.noMemL, optI, mapO, norm, trimT, trimB, forget, hasN, blksLt, List.set, softChk, softGo, softRd, effTg, rdP, eNs, m1]
  generalize hE : evLoop _ _ _ _ _ = E
  obtain ⟨T1, T2⟩ := T _ _ hE (by simp [evCode, evOps, evOne, evOp, evPur, evEff, evPur.chunks, fillP, AOp.isEff, AO.ev, putP, PV.cells, PV.leaf, getB, getM, mapE, iterE, keyC, mapRows, mfind, eq1, eqL, scal, binP, unP, minP, maxP, foldP, PV.lt, PV.lt.ltL, endP, expoAll, expoG, expo, expo.expoL, frIds, frIds.frIdsL, nodupN, kill, cls, clsFuel, resO, RV.get, loadP, evC_p, evC_s, endS, endT, rowsOf, callP, thinL, unfr, unfr.unfrL, PV.noMem, PV.noMem.noMemL, optI, mapO, norm, trimT, trimB, forget, hasN, blksLt, List.set, softChk, softGo, softRd, effTg, rdP, S18, eNs, zRows])
  rw [T2]
  clear hE T2 T
  have h28 := s28 zs zs.length (by omega)
  have hsl := sortZ_len zs
  have hso : (sortZ zs).Pairwise (· ≤ ·) := (sortZ_sorted zs).imp (fun h => by simpa using h)
  obtain ⟨out, rows, h29, r1, r2, r3, r4⟩ := s29 zs.length (sortZ zs) hso (by omega)
  rw [hsl] at h29
  have hol : out.length ≤ 2000 := by
    have := (zRows_len out).symm
    have h5 : out.length ≤ zs.length := by
      have hn : out.Nodup := r3.imp (fun h => by omega)
      have := nodup_len' hn (fun x hx => (r4 x).1 hx)
      omega
    omega
  have fin : ∀ x, x ∈ out ↔ Pt z l x := fun x => (r4 x).trans (hPt x)
  unfold c18b0 c18r0
  by_cases hw : out.length = rows.length
  · have hr : rows = zRows out := by rw [← r1, hw, List.take_length]
    simp [evCode, evOps, evOne, evOp, evPur, evEff, evPur.chunks, fillP, AOp.isEff, AO.ev, putP, PV.cells, PV.leaf, getB, getM, mapE, iterE, keyC, mapRows, mfind, eq1, eqL, scal, binP, unP, minP, maxP, foldP, PV.lt, PV.lt.ltL, endP, expoAll, expoG, expo, expo.expoL, frIds, frIds.frIdsL, nodupN, kill, cls, clsFuel, resO, RV.get, loadP, evC_p, evC_s, endS, endT, rowsOf, callP, thinL, unfr, unfr.unfrL, PV.noMem, PV.noMem.noMemL, optI, mapO, norm, trimT, trimB, forget, hasN, blksLt, List.set, softChk, softGo, softRd, effTg, rdP, S18, eNs, h28, h29, hw]
    exact ⟨out, by rw [hr], r3, hol, fin⟩
  · by_cases h0 : out.length = 0
    · have ho : out = [] := List.length_eq_zero_iff.1 h0
      rw [h0] at h29 hw
      simp [evCode, evOps, evOne, evOp, evPur, evEff, evPur.chunks, fillP, AOp.isEff, AO.ev, putP, PV.cells, PV.leaf, getB, getM, mapE, iterE, keyC, mapRows, mfind, eq1, eqL, scal, binP, unP, minP, maxP, foldP, PV.lt, PV.lt.ltL, endP, expoAll, expoG, expo, expo.expoL, frIds, frIds.frIdsL, nodupN, kill, cls, clsFuel, resO, RV.get, loadP, evC_p, evC_s, endS, endT, rowsOf, callP, thinL, unfr, unfr.unfrL, PV.noMem, PV.noMem.noMemL, optI, mapO, norm, trimT, trimB, forget, hasN, blksLt, List.set, softChk, softGo, softRd, effTg, rdP, S18, eNs, h28, h29, hw, h0]
      exact ⟨out, by rw [ho]; rfl, r3, hol, fin⟩
    · simp [evCode, evOps, evOne, evOp, evPur, evEff, evPur.chunks, fillP, AOp.isEff, AO.ev, putP, PV.cells, PV.leaf, getB, getM, mapE, iterE, keyC, mapRows, mfind, eq1, eqL, scal, binP, unP, minP, maxP, foldP, PV.lt, PV.lt.ltL, endP, expoAll, expoG, expo, expo.expoL, frIds, frIds.frIdsL, nodupN, kill, cls, clsFuel, resO, RV.get, loadP, evC_p, evC_s, endS, endT, rowsOf, callP, thinL, unfr, unfr.unfrL, PV.noMem, PV.noMem.noMemL, optI, mapO, norm, trimT, trimB, forget, hasN, blksLt, List.set, softChk, softGo, softRd, effTg, rdP, S18, eNs, h28, h29, hw, h0, r1, r2]
      exact ⟨out, rfl, r3, hol, fin⟩
theorem f18 (y : Bool) (l : List Sn) (z : Int) (hl : l.length ≤ 600) :
    ∃ v out, evE Dg 18 [eNs y l, .int .i64 z] = some v ∧ unfr v = .sl false 1 (zRows out) ∧ out.Pairwise (· < ·) ∧ out.length ≤ 2000 ∧ ∀ x, x ∈ out ↔ Pt z l x := by
  obtain ⟨out, h1, h2⟩ := f18F y l z hl
  exact ⟨_, out, h1, rfl, h2⟩
end Go.Proofs.Ytkdalahepedghaa
