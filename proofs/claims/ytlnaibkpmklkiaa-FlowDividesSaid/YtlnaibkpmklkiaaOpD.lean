/- flow.Open as a given function: its loop over the map. -/
import Derived.Test.YtlnaibkpmklkiaaOpC
namespace Go.Proofs.Ytlnaibkpmklkiaa
open Go Go.RowKit
set_option linter.unusedVariables false
set_option linter.unusedSimpArgs false
set_option linter.unusedSectionVars false
variable [Bs]

/-- one round's first region -/
theorem next3 {g r clock : Nat} {es : Array MapEntry} {o : List MapEntry} (hb : BornOk es clock) : CWp Try.prog 0 p3n (S3 g r es clock o) (fun out => ∃ st', out = .normal st' ∧
    (((leftOf es (o.map (·.born)).toArray).size = 0 ∧ st' = ⟨((S3 g r es clock o).sl.set 33 (.tup [.bool false])).set 34 (.bool false), (S3 g r es clock o).bl⟩) ∨
      ∃ e ∈ (leftOf es (o.map (·.born)).toArray).toList, st' = ⟨((S3 g r es clock o).sl.set 33 (.tup [.bool true, ofVal e.key, ofVal e.val])).set 34 (.bool true), (S3 g r es clock o).bl.set 3 (exB 0 r (.mapIter (some g) clock ((o ++ [e]).map (·.born)).toArray clock))⟩)) := by
  rw [p3n_eq]
  refine CWp.reg ?_
  refine LWp.cons (by kernel_rfl) (OWp.next (N := 0) (P := Try.prog) (sl := (S3 g r es clock o).sl) (bl := (S3 g r es clock o).bl) (ib := 3) (b := 1) (ver := 0) (g := g) (r := r) (es := es) (clock := clock) (seen := (o.map (·.born)).toArray) (since := clock) (c0 := clock) on0 (by kernel_rfl : n0.dst = some 33) rfl rfl rfl ⟨3, rfl⟩ hb.1 (Nat.le_refl _)) ?_
  rintro st1 (⟨h0, rfl⟩ | ⟨e, he, rfl⟩)
  · refine LWp.cons (by kernel_rfl) (OWp.ev (callOk_C DSortok) qn1 (by simp [evCode, evOps, evOne, evOp, evPur, evEff, evPur.chunks, fillP, AOp.isEff, AO.ev, putP, PV.cells, PV.leaf, getB, getM, mapE, iterE, keyC, mapRows, mfind, eq1, eqL, scal, binP, unP, minP, maxP, foldP, PV.lt, PV.lt.ltL, endP, expoAll, expoG, expo, expo.expoL, frIds, frIds.frIdsL, nodupN, kill, cls, clsFuel, resO, RV.get, loadP, evC_p, evC_s, endS, endT, rowsOf, callP, thinL, unfr, unfr.unfrL, PV.noMem, PV.noMem.noMemL, optI, mapO, norm, trimT, trimB, forget, hasN, blksLt, List.set, softChk, softGo, softRd, effTg, rdP, S3]; rfl)) ?_
    rintro st2 rfl
    exact LWp.nil (.inl ⟨h0, by simp [evCode, evOps, evOne, evOp, evPur, evEff, evPur.chunks, fillP, AOp.isEff, AO.ev, putP, PV.cells, PV.leaf, getB, getM, mapE, iterE, keyC, mapRows, mfind, eq1, eqL, scal, binP, unP, minP, maxP, foldP, PV.lt, PV.lt.ltL, endP, expoAll, expoG, expo, expo.expoL, frIds, frIds.frIdsL, nodupN, kill, cls, clsFuel, resO, RV.get, loadP, evC_p, evC_s, endS, endT, rowsOf, callP, thinL, unfr, unfr.unfrL, PV.noMem, PV.noMem.noMemL, optI, mapO, norm, trimT, trimB, forget, hasN, blksLt, List.set, softChk, softGo, softRd, effTg, rdP, S3]⟩)
  · refine LWp.cons (by kernel_rfl) (OWp.ev (callOk_C DSortok) qn1 (by simp [evCode, evOps, evOne, evOp, evPur, evEff, evPur.chunks, fillP, AOp.isEff, AO.ev, putP, PV.cells, PV.leaf, getB, getM, mapE, iterE, keyC, mapRows, mfind, eq1, eqL, scal, binP, unP, minP, maxP, foldP, PV.lt, PV.lt.ltL, endP, expoAll, expoG, expo, expo.expoL, frIds, frIds.frIdsL, nodupN, kill, cls, clsFuel, resO, RV.get, loadP, evC_p, evC_s, endS, endT, rowsOf, callP, thinL, unfr, unfr.unfrL, PV.noMem, PV.noMem.noMemL, optI, mapO, norm, trimT, trimB, forget, hasN, blksLt, List.set, softChk, softGo, softRd, effTg, rdP, S3]; rfl)) ?_
    rintro st2 rfl
    exact LWp.nil (.inr ⟨e, he, by simp [evCode, evOps, evOne, evOp, evPur, evEff, evPur.chunks, fillP, AOp.isEff, AO.ev, putP, PV.cells, PV.leaf, getB, getM, mapE, iterE, keyC, mapRows, mfind, eq1, eqL, scal, binP, unP, minP, maxP, foldP, PV.lt, PV.lt.ltL, endP, expoAll, expoG, expo, expo.expoL, frIds, frIds.frIdsL, nodupN, kill, cls, clsFuel, resO, RV.get, loadP, evC_p, evC_s, endS, endT, rowsOf, callP, thinL, unfr, unfr.unfrL, PV.noMem, PV.noMem.noMemL, optI, mapO, norm, trimT, trimB, forget, hasN, blksLt, List.set, softChk, softGo, softRd, effTg, rdP, S3, born_arr]⟩)

def A33 (g r : Nat) (es : Array MapEntry) (clock : Nat) (o : List MapEntry) (e : MapEntry) : St :=
  ⟨((S3 g r es clock o).sl.set 33 (.tup [.bool true, ofVal e.key, ofVal e.val])).set 34 (.bool true), (S3 g r es clock o).bl.set 3 (exB 0 r (.mapIter (some g) clock ((o ++ [e]).map (·.born)).toArray clock))⟩
/-- the key, read -/
theorem entry3 {g r clock : Nat} {es : Array MapEntry} {o : List MapEntry} {e : MapEntry} (hb : BornOk es clock) (he : e ∈ es.toList) (hk : ofVal e.key = .int .i64 (keyZ e)) : CWp Try.prog 0 p3e (A33 g r es clock o e) (fun out => ∃ st', out = .normal st' ∧
    st' = ⟨(((A33 g r es clock o e).sl.set 35 (.tup [ofVal e.key, ofVal e.val])).set 36 (.int .i64 (keyZ e))).set 7 (.int .i64 (keyZ e)), (A33 g r es clock o e).bl⟩) := by
  rw [p3e_eq]
  refine CWp.reg ?_
  refine LWp.cons (by kernel_rfl) (OWp.entry (N := 0) (P := Try.prog) (sl := (A33 g r es clock o e).sl) (bl := (A33 g r es clock o e).bl) (ib := 3) (b := 1) (ver := 0) (g := g) (r := r) (es := es) (clock := clock) (seen := (o.map (·.born)).toArray) (since := clock) (e := e) oe0 (by kernel_rfl : e0.dst = some 35) rfl (by rw [born_arr]; rfl) rfl ⟨3, rfl⟩ he hb.2) ?_
  rintro st1 rfl
  have H := LWp.ev (N := 0) (P := Try.prog) (call := evC DSort) (own := own14) (callOk_C DSortok) (st := ⟨(A33 g r es clock o e).sl.set 35 (.tup [ofVal e.key, ofVal e.val]), (A33 g r es clock o e).bl⟩) (st' := ⟨(((A33 g r es clock o e).sl.set 35 (.tup [ofVal e.key, ofVal e.val])).set 36 (.int .i64 (keyZ e))).set 7 (.int .i64 (keyZ e)), (A33 g r es clock o e).bl⟩) qe12 (by simp [evCode, evOps, evOne, evOp, evPur, evEff, evPur.chunks, fillP, AOp.isEff, AO.ev, putP, PV.cells, PV.leaf, getB, getM, mapE, iterE, keyC, mapRows, mfind, eq1, eqL, scal, binP, unP, minP, maxP, foldP, PV.lt, PV.lt.ltL, endP, expoAll, expoG, expo, expo.expoL, frIds, frIds.frIdsL, nodupN, kill, cls, clsFuel, resO, RV.get, loadP, evC_p, evC_s, endS, endT, rowsOf, callP, thinL, unfr, unfr.unfrL, PV.noMem, PV.noMem.noMemL, optI, mapO, norm, trimT, trimB, forget, hasN, blksLt, List.set, softChk, softGo, softRd, effTg, rdP, A33, S3, hk])
  exact H

theorem CWp.to {c : Code} {st st2 : St} {Φ : Out → Prop} (h : st = st2) (hc : CWp Try.prog 0 c st2 Φ) : CWp Try.prog 0 c st Φ := h ▸ hc

def Q3 (g r clock : Nat) (es : Array MapEntry) : Out → Prop := fun out => ∃ o st', out = .exit 3 st' ∧ o.Perm es.toList ∧ st' = ⟨((S3 g r es clock o).sl.set 33 (.tup [.bool false])).set 34 (.bool false), (S3 g r es clock o).bl⟩
theorem loop3 {g r clock : Nat} {es : Array MapEntry} (hb : BornOk es clock) (hk : ∀ e ∈ es.toList, ofVal e.key = .int .i64 (keyZ e)) (hs : es.size ≤ 100000) :
    CWp Try.prog 0 (.loop (.seq p3n (.seq p3c (.block 4 (.seq p3e p3f))))) (S3 g r es clock []) (Q3 g r clock es) := by
  refine CWp.loop (fun n st => ∃ o, Ord es o ∧ n = (leftOf es (o.map (·.born)).toArray).size ∧ (⟨forget [3, 6, 32] 0 st.sl, st.bl⟩ : St) = S3 g r es clock o) ?_ (n := (leftOf es #[]).size) ⟨[], ⟨by simp, by simp⟩, by simp, by simp [evCode, evOps, evOne, evOp, evPur, evEff, evPur.chunks, fillP, AOp.isEff, AO.ev, putP, PV.cells, PV.leaf, getB, getM, mapE, iterE, keyC, mapRows, mfind, eq1, eqL, scal, binP, unP, minP, maxP, foldP, PV.lt, PV.lt.ltL, endP, expoAll, expoG, expo, expo.expoL, frIds, frIds.frIdsL, nodupN, kill, cls, clsFuel, resO, RV.get, loadP, evC_p, evC_s, endS, endT, rowsOf, callP, thinL, unfr, unfr.unfrL, PV.noMem, PV.noMem.noMemL, optI, mapO, norm, trimT, trimB, forget, hasN, blksLt, List.set, softChk, softGo, softRd, effTg, rdP, S3]⟩
  rintro n ⟨sl, bl⟩ ⟨o, ho, rfl, hst⟩
  refine CWp.keepOnly [3, 6, 32] ?_
  refine CWp.to hst ?_
  refine CWp.seqR (next3 hb) ?_
  rintro st' (⟨h0, rfl⟩ | ⟨e, he, rfl⟩)
  · refine CWp.seq (Φ := (· = .exit 3 ⟨((S3 g r es clock o).sl.set 33 (.tup [.bool false])).set 34 (.bool false), (S3 g r es clock o).bl⟩)) (CWp.ev (callOk_C DSortok) (n := 10) q3c (by simp [evCode, evOps, evOne, evOp, evPur, evEff, evPur.chunks, fillP, AOp.isEff, AO.ev, putP, PV.cells, PV.leaf, getB, getM, mapE, iterE, keyC, mapRows, mfind, eq1, eqL, scal, binP, unP, minP, maxP, foldP, PV.lt, PV.lt.ltL, endP, expoAll, expoG, expo, expo.expoL, frIds, frIds.frIdsL, nodupN, kill, cls, clsFuel, resO, RV.get, loadP, evC_p, evC_s, endS, endT, rowsOf, callP, thinL, unfr, unfr.unfrL, PV.noMem, PV.noMem.noMemL, optI, mapO, norm, trimT, trimB, forget, hasN, blksLt, List.set, softChk, softGo, softRd, effTg, rdP, S3])) (fun st' h => by cases h) (fun id st' h => ?_) (fun st' h => by cases h)
    cases h
    exact ⟨o, _, rfl, ho.full hb h0, rfl⟩
  · obtain ⟨h1, h2⟩ := mem_left he
    have hke := hk e h1
    have hlen := ho.len
    refine CWp.seqE (callOk_C DSortok) (n := 10) q3c (st1 := A33 g r es clock o e) (by simp [evCode, evOps, evOne, evOp, evPur, evEff, evPur.chunks, fillP, AOp.isEff, AO.ev, putP, PV.cells, PV.leaf, getB, getM, mapE, iterE, keyC, mapRows, mfind, eq1, eqL, scal, binP, unP, minP, maxP, foldP, PV.lt, PV.lt.ltL, endP, expoAll, expoG, expo, expo.expoL, frIds, frIds.frIdsL, nodupN, kill, cls, clsFuel, resO, RV.get, loadP, evC_p, evC_s, endS, endT, rowsOf, callP, thinL, unfr, unfr.unfrL, PV.noMem, PV.noMem.noMemL, optI, mapO, norm, trimT, trimB, forget, hasN, blksLt, List.set, softChk, softGo, softRd, effTg, rdP, S3, A33]) ?_
    have e1 := intRows_add o e
    have e2 := intRows_len (o.map keyZ)
    have e3 : (o.map keyZ).length = o.length := by simp
    have w1 : (o.length + 1) * 8 ≤ 140737488355328 := by omega
    have w2 : o.length + 1 ≤ 140737488355328 := by omega
    have e4 : (o ++ [e]).length = o.length + 1 := by simp
    refine CWp.block (Φ := fun out => ∃ st', out = .normal st' ∧ (⟨forget [3, 6, 32] 0 st'.sl, st'.bl⟩ : St) = S3 g r es clock (o ++ [e])) ?_ (fun st' h => ?_) (fun id st' h => ?_) (fun st' h => ?_)
    · refine CWp.seqR (entry3 hb h1 hke) ?_
      rintro st' rfl
      refine CWp.mono (CWp.ev (callOk_C DSortok) (n := 10) (out := .normal _) q3f (by unfold a3f; simp [evCode, evOps, evOne, evOp, evPur, evEff, evPur.chunks, fillP, AOp.isEff, AO.ev, putP, PV.cells, PV.leaf, getB, getM, mapE, iterE, keyC, mapRows, mfind, eq1, eqL, scal, binP, unP, minP, maxP, foldP, PV.lt, PV.lt.ltL, endP, expoAll, expoG, expo, expo.expoL, frIds, frIds.frIdsL, nodupN, kill, cls, clsFuel, resO, RV.get, loadP, evC_p, evC_s, endS, endT, rowsOf, callP, thinL, unfr, unfr.unfrL, PV.noMem, PV.noMem.noMemL, optI, mapO, norm, trimT, trimB, forget, hasN, blksLt, List.set, softChk, softGo, softRd, effTg, rdP, S3, A33, e1, e2, e3, w1, w2]; rfl)) ?_
      rintro out rfl
      exact ⟨_, rfl, by simp [evCode, evOps, evOne, evOp, evPur, evEff, evPur.chunks, fillP, AOp.isEff, AO.ev, putP, PV.cells, PV.leaf, getB, getM, mapE, iterE, keyC, mapRows, mfind, eq1, eqL, scal, binP, unP, minP, maxP, foldP, PV.lt, PV.lt.ltL, endP, expoAll, expoG, expo, expo.expoL, frIds, frIds.frIdsL, nodupN, kill, cls, clsFuel, resO, RV.get, loadP, evC_p, evC_s, endS, endT, rowsOf, callP, thinL, unfr, unfr.unfrL, PV.noMem, PV.noMem.noMemL, optI, mapO, norm, trimT, trimB, forget, hasN, blksLt, List.set, softChk, softGo, softRd, effTg, rdP, S3, e4]⟩
    · obtain ⟨s, h3, h4⟩ := h
      cases h3
      exact ⟨_, left_smaller he, o ++ [e], ho.add he, rfl, h4⟩
    · obtain ⟨s, h3, _⟩ := h
      cases h3
    · obtain ⟨s, h3, _⟩ := h
      cases h3
end Go.Proofs.Ytlnaibkpmklkiaa
