/- memory.Of, whole. -/
import Derived.Test.YtalmhggbdfjalaaMmE
namespace Go.Proofs.Ytalmhggbdfjalaa
open Go Go.RowKit
set_option linter.unusedVariables false
set_option linter.unusedSimpArgs false
set_option maxHeartbeats 4000000

theorem BB30 (v : Nat) (M : List Rw) : BB (B30 v M) 1 v 3 := ⟨fun _ => rfl, fun _ => rfl, fun _ _ => rfl, fun _ => rfl, fun _ => rfl, by omega⟩
theorem okR_rows (l : List Bk) : OkLR (bRows l) := fun r hr => by
  unfold bRows at hr
  obtain ⟨b, _, rfl⟩ := List.mem_map.1 hr
  exact bRow_ok b
def X11 (l : List Td) (e : Int) (a : List Bk) (ms : List (Int × Nat)) : St :=
  ⟨[.top, .int .i64 e, .top, .top, .top, .own 1 a.length 0 a.length, .mp 2 0, .top, .top, .top, .top, .top, .top, .top, .top, .top, .sl false 10 (tRows l), .int .i64 l.length, .int .i64 l.length, .bool false] ++ List.replicate 72 .top, B30 a.length (mRows ms) (bRows a)⟩
theorem exit11 (l : List Td) (e : Int) (a : List Bk) (ms : List (Int × Nat)) (f : Nat) : evCode (evC Dg) f c11b0 (S11 l e l.length a ms) = some (.exit 0 (X11 l e a ms)) := by
  unfold c11b0 X11
  simp [evCode, evOps, evOne, evOp, evPur, evEff, evPur.chunks, fillP, AOp.isEff, AO.ev, putP, PV.cells, PV.leaf, getB, getM, mapE, iterE, keyC, mapRows, mfind, eq1, eqL, scal, binP, unP, minP, maxP, foldP, PV.lt, PV.lt.ltL, endP, expoAll, expoG, expo, expo.expoL, frIds, frIds.frIdsL, nodupN, kill, cls, clsFuel, resO, RV.get, loadP, evC_p, evC_s, endS, endT, rowsOf, callP, thinL, unfr, unfr.unfrL, PV.noMem, PV.noMem.noMemL, optI, mapO, norm, trimT, trimB, forget, hasN, blksLt, List.set, softChk, softGo, softRd, effTg, rdP, S11, B30]
set_option maxRecDepth 100000 in
theorem f11 (l : List Td) (hl : l.length ≤ 1000) (e : Int) : evE Dg 11 [.sl false 10 (tRows l), .int .i64 e] = some (.fr 7 (bRows (ofB l e))) := by
  have h28 := f28 l (by omega) e
  unfold ofB
  generalize hEE : endM l e = en at *
  have H := fun (s0 : St) (E : Option Out) => loop_inv (body := evCode (evC Dg) 3000 c11b0) (keep := [1, 5, 6, 16, 17, 18]) (n0 := 3) (fuel := 3000) l (fun k (x : List Bk × List (Int × Nat)) => S11 l en k x.1 x.2) (fun k x => x.1 = allB en (l.take k) ∧ MInv x.1 x.2) (fun _ => False) (by
    rintro k t ⟨a, ms⟩ ht hk ⟨h1, h2⟩
    left
    simp only at h1 h2
    have htk : l.take (k + 1) = l.take k ++ [t] := by rw [List.take_add_one, ht]; rfl
    have hal : a.length ≤ k := by
      have := allB_len en (l.take k)
      rw [← h1, List.length_take] at this
      omega
    have hs := allB_snoc en t (l.take k)
    rw [← htk, ← h1] at hs
    by_cases k11 : t.kd = 11
    · have hA : isA t = true := by unfold isA; simp [k11]
      rw [if_pos hA] at hs
      cases hg : aget t.n ms with
      | none =>
        rw [h2.no1 (.inl k11) hg] at hs
        obtain ⟨s, e1, e2⟩ := of_new0 l en k t ht hl a ms 3000 hal k11 hg
        exact ⟨(_, _), s, e1, e2, hs.symm, h2.add en t hg⟩
      | some j =>
        obtain ⟨b, b1, b2, b3, b4⟩ := h2.so1 (.inl k11) hg
        rw [b2] at hs
        obtain ⟨s, e1, e2⟩ := of_new1 l en k t ht hl a ms 3000 hal k11 j b hg b1 b3
        have hadd := b4.add en t b3
        rw [List.length_set] at hadd
        exact ⟨(_, _), s, e1, e2, hs.symm, hadd⟩
    · have hA : ¬ isA t = true := by unfold isA; simp [k11]
      rw [if_neg hA, List.append_nil] at hs
      by_cases k12 : t.kd = 12
      · cases hg : aget t.n ms with
        | none =>
          rw [h2.no1 (.inr k12) hg] at hs
          obtain ⟨s, e1, e2⟩ := of_free0 l en k t ht hl a ms 3000 k12 hg
          exact ⟨(_, _), s, e1, e2, hs.symm, h2⟩
        | some j =>
          obtain ⟨b, b1, b2, b3, b4⟩ := h2.so1 (.inr k12) hg
          rw [b2] at hs
          obtain ⟨s, e1, e2⟩ := of_free1 l en k t ht hl a ms 3000 k12 j b hg b1
          exact ⟨(_, _), s, e1, e2, hs.symm, b4⟩
      · rw [clo_other k11 k12] at hs
        obtain ⟨s, e1, e2⟩ := of_other l en k t ht hl a ms 3000 k11 k12
        exact ⟨(_, _), s, e1, e2, hs.symm, h2⟩) (by
    intro x _ s
    rw [exit11]
    intro h; cases h) (by omega) ([], []) ⟨rfl, MInv.nil⟩ s0 E
  have eL := tRows_len l
  refine evE_intro 3000 D11 rfl ?_
  unfold c11
  simp [evCode, evOps, evOne, evOp, evPur, evEff, evPur.chunks, fillP, AOp.isEff, AO.ev, putP, PV.cells, PV.leaf, getB, getM, mapE, iterE, keyC, mapRows, mfind, eq1, eqL, scal, binP, unP, minP, maxP, foldP, PV.lt, PV.lt.ltL, endP, expoAll, expoG, expo, expo.expoL, frIds, frIds.frIdsL, nodupN, kill, cls, clsFuel, resO, RV.get, loadP, evC_p, evC_s, endS, endT, rowsOf, callP, thinL, unfr, unfr.unfrL, PV.noMem, PV.noMem.noMemL, optI, mapO, norm, trimT, trimB, forget, hasN, blksLt, List.set, softChk, softGo, softRd, effTg, rdP, h28, eL]
  generalize hE : evLoop (evCode (evC Dg) 3000 c11b0) [1, 5, 6, 16, 17, 18] 3 3000 _ = E
  rcases H _ E hE (by simp [evCode, evOps, evOne, evOp, evPur, evEff, evPur.chunks, fillP, AOp.isEff, AO.ev, putP, PV.cells, PV.leaf, getB, getM, mapE, iterE, keyC, mapRows, mfind, eq1, eqL, scal, binP, unP, minP, maxP, foldP, PV.lt, PV.lt.ltL, endP, expoAll, expoG, expo, expo.expoL, frIds, frIds.frIdsL, nodupN, kill, cls, clsFuel, resO, RV.get, loadP, evC_p, evC_s, endS, endT, rowsOf, callP, thinL, unfr, unfr.unfrL, PV.noMem, PV.noMem.noMemL, optI, mapO, norm, trimT, trimB, forget, hasN, blksLt, List.set, softChk, softGo, softRd, effTg, rdP, S11, B30, bRows, mRows]) with ⟨⟨a, ms⟩, ⟨h1, h2⟩, rfl⟩ | ⟨s, _, h⟩
  · simp only at h1 h2
    rw [List.take_of_length_le (Nat.le_refl _)] at h1
    simp only
    rw [exit11]
    have hal : a.length ≤ 1000 := by rw [h1]; have := allB_len en l; omega
    have hd := s30 a.length a.length (mRows ms) (bRows a) (by omega) (bRows_len a) (okR_rows a)
    have hkl : (kept (bRows a)).length ≤ a.length := by have := kept_len (bRows a); rw [bRows_len] at this; exact this
    have hkO : OkLR (kept (bRows a)) := fun r hr => okR_rows a r (List.mem_filter.1 hr).1
    have hz : OkLR (List.replicate (a.length - (kept (bRows a)).length) zRow) := fun r hr => by
      rw [(List.mem_replicate.1 hr).2]; exact zRow_ok
    have hs := s32 (BB30 a.length (mRows ms)) cmp33 (n := (kept (bRows a)).length) (by omega) _ hz (kept (bRows a)) hkO rfl
    rw [h1, kept_rows, ← h1, srtS_rows] at hs
    rw [h1, kept_rows, ← h1] at hd
    rw [bRows_len] at hs hd
    rw [← h1]
    have hlen : (srtS leB (a.filter keepB)).length = (a.filter keepB).length := srtS_len _ _
    have hfl : (a.filter keepB).length ≤ a.length := List.length_filter_le _ _
    generalize srtS leB (a.filter keepB) = R at *
    generalize a.filter keepB = K at *
    have e1 := bRows_len R
    have e2 := bRows_all R
    have e3 : (bRows R ++ List.replicate (a.length - K.length) zRow).length = a.length := by simp [bRows]; omega
    have e4 : (bRows R ++ List.replicate (a.length - K.length) zRow).take K.length = bRows R := by
      rw [← hlen, ← e1, List.take_left']
      rfl
    have e5 : (bRows R).length = K.length := by rw [e1, hlen]
    have hZ0 : K.length = a.length → bRows R ++ List.replicate (a.length - K.length) zRow = bRows R := fun h => by rw [h]; simp
    have hR0 : K = [] → bRows R = [] := fun h => by
      rw [h] at hlen
      rw [List.length_eq_zero_iff.1 hlen]; rfl
    generalize List.replicate (a.length - K.length) zRow = Z at *
    generalize bRows R ++ Z = BZ at *
    generalize hBK : bRows K ++ Z = BK at *
    clear hE H h2 hBK hz hkO hkl e2 e1
    simp only [B30, mapE] at hd hs
    unfold X11 c11r0
    generalize bRows a = ba at *
    by_cases c1 : K.length = a.length
    · rw [hZ0 c1] at *
      rw [c1] at hd hs e5
      simp [evCode, evOps, evOne, evOp, evPur, evEff, evPur.chunks, fillP, AOp.isEff, AO.ev, putP, PV.cells, PV.leaf, getB, getM, mapE, iterE, keyC, mapRows, mfind, eq1, eqL, scal, binP, unP, minP, maxP, foldP, PV.lt, PV.lt.ltL, endP, expoAll, expoG, expo, expo.expoL, frIds, frIds.frIdsL, nodupN, kill, cls, clsFuel, resO, RV.get, loadP, evC_p, evC_s, endS, endT, rowsOf, callP, thinL, unfr, unfr.unfrL, PV.noMem, PV.noMem.noMemL, optI, mapO, norm, trimT, trimB, forget, hasN, blksLt, List.set, softChk, softGo, softRd, effTg, rdP, hd, hs, e3, e4, hfl, B30, c1, e5]
    · by_cases c2 : K = []
      · rw [hR0 c2] at *
        subst c2
        simp only [List.length_nil] at hd hs c1
        simp [evCode, evOps, evOne, evOp, evPur, evEff, evPur.chunks, fillP, AOp.isEff, AO.ev, putP, PV.cells, PV.leaf, getB, getM, mapE, iterE, keyC, mapRows, mfind, eq1, eqL, scal, binP, unP, minP, maxP, foldP, PV.lt, PV.lt.ltL, endP, expoAll, expoG, expo, expo.expoL, frIds, frIds.frIdsL, nodupN, kill, cls, clsFuel, resO, RV.get, loadP, evC_p, evC_s, endS, endT, rowsOf, callP, thinL, unfr, unfr.unfrL, PV.noMem, PV.noMem.noMemL, optI, mapO, norm, trimT, trimB, forget, hasN, blksLt, List.set, softChk, softGo, softRd, effTg, rdP, hd, hs, e3, e4, hfl, B30, c1]
      · simp [evCode, evOps, evOne, evOp, evPur, evEff, evPur.chunks, fillP, AOp.isEff, AO.ev, putP, PV.cells, PV.leaf, getB, getM, mapE, iterE, keyC, mapRows, mfind, eq1, eqL, scal, binP, unP, minP, maxP, foldP, PV.lt, PV.lt.ltL, endP, expoAll, expoG, expo, expo.expoL, frIds, frIds.frIdsL, nodupN, kill, cls, clsFuel, resO, RV.get, loadP, evC_p, evC_s, endS, endT, rowsOf, callP, thinL, unfr, unfr.unfrL, PV.noMem, PV.noMem.noMemL, optI, mapO, norm, trimT, trimB, forget, hasN, blksLt, List.set, softChk, softGo, softRd, effTg, rdP, hd, hs, e3, e4, hfl, B30, c1, c2]
  · exact h.elim
end Go.Proofs.Ytalmhggbdfjalaa
