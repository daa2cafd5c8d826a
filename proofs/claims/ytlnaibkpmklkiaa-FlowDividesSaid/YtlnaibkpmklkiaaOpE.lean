/- flow.Open as a given function. -/
import Derived.Test.YtlnaibkpmklkiaaOpD
namespace Go.Proofs.Ytlnaibkpmklkiaa
open Go Go.RowKit
set_option linter.unusedVariables false
set_option linter.unusedSimpArgs false
set_option linter.unusedSectionVars false

theorem sortZ_perm_eq {a b : List Int} (h : a.Perm b) : sortZ a = sortZ b := by
  refine List.Perm.eq_of_pairwise (le := fun a b => decide (a ≤ b) = true) (fun a b _ _ h1 h2 => by simp only [decide_eq_true_eq] at h1 h2; omega) (sortZ_sorted a) (sortZ_sorted b) ?_
  exact ((sortZ_perm a).trans h).trans (sortZ_perm b).symm

theorem sortG (b0 b1 b3 : Option Blk) (n : Nat) (xs : List Int) (hn : xs.length = n) (h : n ≤ 100000) : xSort [.own 2 n 0 n] [b0, b1, some ⟨n, 1, true, intRows xs⟩, b3] = some (.tup [], [b0, b1, some ⟨n, 1, true, intRows (sortZ xs)⟩, b3]) := by
  have e2 := intRows_len xs
  have e4 := intsOf_rows xs
  by_cases h0 : n = 0
  · subst h0
    have : xs = [] := List.eq_nil_of_length_eq_zero hn
    subst this
    simp [xSort, getB, mapE, sortZ]
  · have h1 : 0 < n := by omega
    have h2 : n < 1000000 := by omega
    simp [xSort, getB, mapE, h0, h1, h2, e2, hn, e4]
theorem sort3 {g r clock : Nat} {es : Array MapEntry} (o : List MapEntry) (ho : o.length ≤ 100000) (sl : List PV) :
    ∃ v b2, xSort [.own 2 o.length 0 o.length] (S3 g r es clock o).bl = some (.tup [], [some ⟨0, 1, true, []⟩, v, some ⟨o.length, 1, true, intRows (sortZ (o.map keyZ))⟩, b2]) :=
  ⟨_, _, sortG _ _ _ o.length (o.map keyZ) (by simp) ho⟩

variable [Bs]
set_option maxRecDepth 100000 in
theorem ext14 : ExtOk Try.prog 14 openX := by
  refine extOk_wp (fn := Try.f14) (c := .seq p0 (.seq p1 (.seq p2 (.seq p3a (.seq (.seq p3r p3b) p4))))) (res := [.t 2]) Try.func14 b14_eq (by kernel_rfl) (by decide) (fun args r hx => ?_)
  obtain ⟨ex, l, rfl, hl, rfl⟩ := openX_inv hx
  have hn : Try.f14.ntmps - (Try.f14.params.size + Try.f14.nfree) = 43 := by kernel_rfl
  refine ⟨by kernel_rfl, ?_⟩
  rw [hn]
  have hc := callOk_C (P := Try.prog) DSortok
  refine CWp.seqE hc (n := 200000) q0 (by simp [evCode, evOps, evOne, evOp, evPur, evEff, evPur.chunks, fillP, AOp.isEff, AO.ev, putP, PV.cells, PV.leaf, getB, getM, mapE, iterE, keyC, mapRows, mfind, eq1, eqL, scal, binP, unP, minP, maxP, foldP, PV.lt, PV.lt.ltL, endP, expoAll, expoG, expo, expo.expoL, frIds, frIds.frIdsL, nodupN, kill, cls, clsFuel, resO, RV.get, loadP, evC_p, evC_s, endS, endT, rowsOf, callP, thinL, unfr, unfr.unfrL, PV.noMem, PV.noMem.noMemL, optI, mapO, norm, trimT, trimB, forget, hasN, blksLt, List.set, softChk, softGo, softRd, effTg, rdP]; rfl) ?_
  refine CWp.seqE hc (n := 200000) q1 (by simp [evCode, evOps, evOne, evOp, evPur, evEff, evPur.chunks, fillP, AOp.isEff, AO.ev, putP, PV.cells, PV.leaf, getB, getM, mapE, iterE, keyC, mapRows, mfind, eq1, eqL, scal, binP, unP, minP, maxP, foldP, PV.lt, PV.lt.ltL, endP, expoAll, expoG, expo, expo.expoL, frIds, frIds.frIdsL, nodupN, kill, cls, clsFuel, resO, RV.get, loadP, evC_p, evC_s, endS, endT, rowsOf, callP, thinL, unfr, unfr.unfrL, PV.noMem, PV.noMem.noMemL, optI, mapO, norm, trimT, trimB, forget, hasN, blksLt, List.set, softChk, softGo, softRd, effTg, rdP]; rfl) ?_
  refine CWp.seqE hc (n := 200000) q2 (ev2 (evC DSort) ex l hl) ?_
  refine CWp.seqE hc (n := 200000) q3a (by simp [evCode, evOps, evOne, evOp, evPur, evEff, evPur.chunks, fillP, AOp.isEff, AO.ev, putP, PV.cells, PV.leaf, getB, getM, mapE, iterE, keyC, mapRows, mfind, eq1, eqL, scal, binP, unP, minP, maxP, foldP, PV.lt, PV.lt.ltL, endP, expoAll, expoG, expo, expo.expoL, frIds, frIds.frIdsL, nodupN, kill, cls, clsFuel, resO, RV.get, loadP, evC_p, evC_s, endS, endT, rowsOf, callP, thinL, unfr, unfr.unfrL, PV.noMem, PV.noMem.noMemL, optI, mapO, norm, trimT, trimB, forget, hasN, blksLt, List.set, softChk, softGo, softRd, effTg, rdP, V2]; rfl) ?_
  refine CWp.exact (x := 3) (b := 1) (ver := 0) (bx := ⟨0, mapE, true, mRows (opens l)⟩) rfl rfl (fun es clock g hb hm => ?_)
  obtain ⟨m, k, hm⟩ := hm
  obtain ⟨k1, k2⟩ := mapin_keys hm
  have hes : es.size ≤ 100000 := by
    have h1 := opens_len l
    have h2 : (es.toList.map keyZ).length = (opens l).length := by rw [k1]
    simp at h2
    omega
  have hu := u57
  obtain ⟨K, E, hu⟩ := hu
  refine CWp.seq (Φ := fun out => ∃ r o, o.Perm es.toList ∧ out = .normal ⟨((S3 g r es clock o).sl.set 33 (.tup [.bool false])).set 34 (.bool false), (S3 g r es clock o).bl⟩) ?_ ?_ (fun id st' h => by obtain ⟨_, _, _, h⟩ := h; cases h) (fun st' h => by obtain ⟨_, _, _, h⟩ := h; cases h)
  · rw [p3r_eq]
    refine CWp.seqR (Φ := fun st' => ∃ r, (⟨forget [3, 6, 32] 0 st'.sl, st'.bl⟩ : St) = S3 g r es clock []) (CWp.reg ?_) ?_
    · refine LWp.cons (by kernel_rfl) (OWp.ev hc qr0 (by simp [evCode, evOps, evOne, evOp, evPur, evEff, evPur.chunks, fillP, AOp.isEff, AO.ev, putP, PV.cells, PV.leaf, getB, getM, mapE, iterE, keyC, mapRows, mfind, eq1, eqL, scal, binP, unP, minP, maxP, foldP, PV.lt, PV.lt.ltL, endP, expoAll, expoG, expo, expo.expoL, frIds, frIds.frIdsL, nodupN, kill, cls, clsFuel, resO, RV.get, loadP, evC_p, evC_s, endS, endT, rowsOf, callP, thinL, unfr, unfr.unfrL, PV.noMem, PV.noMem.noMemL, optI, mapO, norm, trimT, trimB, forget, hasN, blksLt, List.set, softChk, softGo, softRd, effTg, rdP]; rfl)) ?_
      rintro st1 rfl
      refine LWp.cons (by kernel_rfl) (OWp.range (x := 31) (d := 32) (b := 1) (ver := 0) (g := g) (es := es) (clock := clock) (y := .top) or1 (by kernel_rfl) hu rfl rfl) ?_
      rintro st1 ⟨r, rfl⟩
      exact LWp.nil ⟨r, by simp [evCode, evOps, evOne, evOp, evPur, evEff, evPur.chunks, fillP, AOp.isEff, AO.ev, putP, PV.cells, PV.leaf, getB, getM, mapE, iterE, keyC, mapRows, mfind, eq1, eqL, scal, binP, unP, minP, maxP, foldP, PV.lt, PV.lt.ltL, endP, expoAll, expoG, expo, expo.expoL, frIds, frIds.frIdsL, nodupN, kill, cls, clsFuel, resO, RV.get, loadP, evC_p, evC_s, endS, endT, rowsOf, callP, thinL, unfr, unfr.unfrL, PV.noMem, PV.noMem.noMemL, optI, mapO, norm, trimT, trimB, forget, hasN, blksLt, List.set, softChk, softGo, softRd, effTg, rdP, S3, intRows]⟩
    · rintro ⟨sl, bl⟩ ⟨r, hst⟩
      refine CWp.keepOnly [3, 6, 32] ?_
      refine CWp.to hst ?_
      rw [p3b_eq]
      refine CWp.block (loop3 hb k2 hes) (fun st' h => ?_) (fun id st' h => ?_) (fun st' h => ?_)
      · obtain ⟨_, _, h, _⟩ := h; cases h
      · obtain ⟨o, s, h1, h2, h3⟩ := h
        cases h1
        exact ⟨r, o, h2, by rw [h3]⟩
      · obtain ⟨_, _, h, _⟩ := h; cases h
  · rintro st' ⟨r, o, ho, h⟩
    cases h
    have hol : o.length ≤ 100000 := by have := ho.length_eq; simp at this; omega
    obtain ⟨v, b2, hs⟩ := sort3 (g := g) (r := r) (es := es) (clock := clock) o hol []
    have hs' := s26 hs
    have hp : sortZ (o.map keyZ) = sortZ (opens l) := sortZ_perm_eq (by rw [← k1]; exact ho.map keyZ)
    have hlen : (intRows (sortZ (o.map keyZ))).length = o.length := by rw [intRows_len, (sortZ_perm _).length_eq]; simp
    rw [← hp]
    generalize hZ : intRows (sortZ (o.map keyZ)) = Z at *
    generalize hbl : (S3 g r es clock o).bl = BL at *
    have hlb : BL.length = 4 := by rw [← hbl]; simp [S3]
    refine CWp.mono (CWp.ev hc (n := 10) (out := .ret _) q4 (by unfold a4; simp [evCode, evOps, evOne, evOp, evPur, evEff, evPur.chunks, fillP, AOp.isEff, AO.ev, putP, PV.cells, PV.leaf, getB, getM, mapE, iterE, keyC, mapRows, mfind, eq1, eqL, scal, binP, unP, minP, maxP, foldP, PV.lt, PV.lt.ltL, endP, expoAll, expoG, expo, expo.expoL, frIds, frIds.frIdsL, nodupN, kill, cls, clsFuel, resO, RV.get, loadP, evC_p, evC_s, endS, endT, rowsOf, callP, thinL, unfr, unfr.unfrL, PV.noMem, PV.noMem.noMemL, optI, mapO, norm, trimT, trimB, forget, hasN, blksLt, List.set, softChk, softGo, softRd, effTg, rdP, S3, hs', hlb]; rfl)) ?_
    rintro out rfl
    simp [evCode, evOps, evOne, evOp, evPur, evEff, evPur.chunks, fillP, AOp.isEff, AO.ev, putP, PV.cells, PV.leaf, getB, getM, mapE, iterE, keyC, mapRows, mfind, eq1, eqL, scal, binP, unP, minP, maxP, foldP, PV.lt, PV.lt.ltL, endP, expoAll, expoG, expo, expo.expoL, frIds, frIds.frIdsL, nodupN, kill, cls, clsFuel, resO, RV.get, loadP, evC_p, evC_s, endS, endT, rowsOf, callP, thinL, unfr, unfr.unfrL, PV.noMem, PV.noMem.noMemL, optI, mapO, norm, trimT, trimB, forget, hasN, blksLt, List.set, softChk, softGo, softRd, effTg, rdP, hlen]
end Go.Proofs.Ytlnaibkpmklkiaa
