/- ring: the records, as the reference reads them. -/
import Derived.Test.YthoncigfbhinlaaRgJ
namespace Go.Proofs.Ythoncigfbhinlaa
open Go Go.RowKit
set_option linter.unusedVariables false
set_option linter.unusedSimpArgs false
set_option maxHeartbeats 8000000

def rcN (l : List (List Nat)) : List (List PV) := l.map fun r => [PV.sl false 1 (bR r)]
theorem rcN_len (l : List (List Nat)) : (rcN l).length = l.length := by simp [rcN]
theorem rcN_app (a b : List (List Nat)) : rcN (a ++ b) = rcN a ++ rcN b := by simp [rcN]
def S29 (u : List Nat × List (List Nat)) : St :=
  ⟨[.sl false 1 (bR u.1), .top, .top, .top, .own 1 u.2.length 0 u.2.length] ++ List.replicate 45 .top,
    [some ⟨0, 1, true, []⟩, some ⟨u.2.length, 1, true, rcN u.2⟩]⟩
set_option maxRecDepth 100000 in
theorem loop29 (b : List Nat) (hb : okB b) (hl : b.length ≤ 70000) (E : Option Out) (s0 : St) (hE : evLoop (evCode (evC Dg) 70010 c29b0) [0, 4] 2 70010 s0 = E) (h0 : norm [0, 4] 2 s0 = S29 (b, [])) :
    (∃ l, recF (b.length + 1) b = some l ∧ E = evCode (evC Dg) 70010 c29b0 (S29 ([], l))) ∨ (recF (b.length + 1) b = none ∧ ∃ st, E = some (.ret st) ∧ endP [.t 2, .t 3] (some (.ret st)) = some (.tup [.fr 1 [], .bool false])) := by
  obtain ⟨R, hR⟩ := ex_eq (recF (b.length + 1) b)
  rw [hR]
  have H := loop_while (body := evCode (evC Dg) 70010 c29b0) (keep := [0, 4]) (n0 := 2) (fuel := 70010) S29 (fun u => u.1.length) (fun u => okB u.1 ∧ u.1.length + u.2.length ≤ 70000 ∧ ∃ n, u.1.length + 1 ≤ n ∧ (match recF n u.1 with | some q => some (u.2 ++ q) | none => none) = R)
    (fun o => (∃ l, R = some l ∧ some o = evCode (evC Dg) 70010 c29b0 (S29 ([], l))) ∨ (R = none ∧ ∃ st, o = .ret st ∧ endP [.t 2, .t 3] (some (.ret st)) = some (.tup [.fr 1 [], .bool false])))
    (by
      rintro ⟨rest, l⟩ ⟨ho, hlen, n, hn, hm⟩
      simp only at ho hlen hn hm
      obtain ⟨n, rfl⟩ : ∃ q, n = q + 1 := ⟨n - 1, by omega⟩
      by_cases hnil : rest = []
      · subst hnil
        right
        have hm' : R = some l := by rw [← hm]; simp [recF]
        have hbody : ∃ o, evCode (evC Dg) 70010 c29b0 (S29 ([], l)) = some o ∧ ∀ s, o ≠ .normal s := by
          have hz : bR [] = [] := rfl
          unfold c29b0
          simp [evCode, evOps, evOne, evOp, evPur, evEff, evPur.chunks, fillP, AOp.isEff, AO.ev, putP, PV.cells, PV.leaf, getB, getM, mapE, keyC, mapRows, mfind, eq1, eqL, scal, binP, unP, minP, maxP, foldP, PV.lt, PV.lt.ltL, endP, expoAll, expo, expo.expoL, frIds, frIds.frIdsL, nodupN, kill, cls, clsFuel, resO, RV.get, loadP, evC_p, evC_s, endS, endT, rowsOf, callP, thinL, unfr, unfr.unfrL, PV.noMem, PV.noMem.noMemL, optI, mapO, norm, trimT, trimB, forget, hasN, blksLt, List.set, S29, hz]
        obtain ⟨o, ho1, ho2⟩ := hbody
        exact ⟨o, ho1, ho2, .inl ⟨l, hm', ho1.symm⟩⟩
      · have e1 := bR_len rest
        have hpos : 0 < rest.length := List.length_pos_iff.2 hnil
        have hpos' : (0 : Int) < rest.length := by omega
        have h38 := f38 false rest (by omega) ho
        have hsz := decGo_size 10 0 0 rest
        change (dec rest).2.2 = 0 → 0 + 1 ≤ (dec rest).2.1 ∧ (dec rest).2.1 ≤ 0 + rest.length at hsz
        simp only [recF, hnil, if_false] at hm
        have bad : frameF rest = none → (∃ o, evCode (evC Dg) 70010 c29b0 (S29 (rest, l)) = some (.ret o) ∧ endP [.t 2, .t 3] (some (.ret o)) = some (.tup [.fr 1 [], .bool false])) →
            (∃ o, evCode (evC Dg) 70010 c29b0 (S29 (rest, l)) = some o ∧ (∀ s, o ≠ .normal s) ∧ ((∃ l, R = some l ∧ some o = evCode (evC Dg) 70010 c29b0 (S29 ([], l))) ∨ (R = none ∧ ∃ st, o = .ret st ∧ endP [.t 2, .t 3] (some (.ret st)) = some (.tup [.fr 1 [], .bool false])))) := by
          rintro hf ⟨o, ho1, ho3⟩
          rw [hf] at hm
          exact ⟨_, ho1, (fun s h => by cases h), .inr ⟨hm.symm, o, rfl, ho3⟩⟩
        have hfr : frameF rest = if (dec rest).2.2 = 0 ∧ 0 ≤ (dec rest).1 ∧ (dec rest).1 ≤ 2000 ∧ (dec rest).1 ≤ (rest.length : Int) - (dec rest).2.1 then some ((rest.drop (dec rest).2.1).take (dec rest).1.toNat, (dec rest).2.1 + (dec rest).1.toNat) else none := rfl
        obtain ⟨r, hd⟩ := ex_eq (dec rest)
        obtain ⟨v, s, er⟩ := r
        rw [hd] at h38 hsz hfr
        simp only [tr3] at h38 hsz hfr
        simp only [eB] at h38
        by_cases c1 : er = 0
        · obtain ⟨s1, s2⟩ := hsz c1
          subst c1
          by_cases c2 : v < 0
          · refine .inr (bad (by rw [hfr, if_neg (by omega)]) ?_)
            unfold c29b0
            simp [evCode, evOps, evOne, evOp, evPur, evEff, evPur.chunks, fillP, AOp.isEff, AO.ev, putP, PV.cells, PV.leaf, getB, getM, mapE, keyC, mapRows, mfind, eq1, eqL, scal, binP, unP, minP, maxP, foldP, PV.lt, PV.lt.ltL, endP, expoAll, expo, expo.expoL, frIds, frIds.frIdsL, nodupN, kill, cls, clsFuel, resO, RV.get, loadP, evC_p, evC_s, endS, endT, rowsOf, callP, thinL, unfr, unfr.unfrL, PV.noMem, PV.noMem.noMemL, optI, mapO, norm, trimT, trimB, forget, hasN, blksLt, List.set, S29, e1, hpos, hpos', h38, c2]
          · by_cases c3 : 2000 < v
            · refine .inr (bad (by rw [hfr, if_neg (by omega)]) ?_)
              unfold c29b0
              simp [evCode, evOps, evOne, evOp, evPur, evEff, evPur.chunks, fillP, AOp.isEff, AO.ev, putP, PV.cells, PV.leaf, getB, getM, mapE, keyC, mapRows, mfind, eq1, eqL, scal, binP, unP, minP, maxP, foldP, PV.lt, PV.lt.ltL, endP, expoAll, expo, expo.expoL, frIds, frIds.frIdsL, nodupN, kill, cls, clsFuel, resO, RV.get, loadP, evC_p, evC_s, endS, endT, rowsOf, callP, thinL, unfr, unfr.unfrL, PV.noMem, PV.noMem.noMemL, optI, mapO, norm, trimT, trimB, forget, hasN, blksLt, List.set, S29, e1, hpos, hpos', h38, c2, c3]
            · have w1 : IntKind.i64.wrap ((rest.length : Int) - s) = (rest.length : Int) - s := wrap_i64 _ (by omega) (by omega)
              by_cases c4 : (rest.length : Int) - s < v
              · refine .inr (bad (by rw [hfr, if_neg (by omega)]) ?_)
                unfold c29b0
                simp [evCode, evOps, evOne, evOp, evPur, evEff, evPur.chunks, fillP, AOp.isEff, AO.ev, putP, PV.cells, PV.leaf, getB, getM, mapE, keyC, mapRows, mfind, eq1, eqL, scal, binP, unP, minP, maxP, foldP, PV.lt, PV.lt.ltL, endP, expoAll, expo, expo.expoL, frIds, frIds.frIdsL, nodupN, kill, cls, clsFuel, resO, RV.get, loadP, evC_p, evC_s, endS, endT, rowsOf, callP, thinL, unfr, unfr.unfrL, PV.noMem, PV.noMem.noMemL, optI, mapO, norm, trimT, trimB, forget, hasN, blksLt, List.set, S29, e1, hpos, hpos', h38, c2, c3, w1, c4]
              · obtain ⟨q, rfl⟩ : ∃ q : Nat, v = q := ⟨v.toNat, by omega⟩
                rw [if_pos ⟨rfl, by omega, by omega, by omega⟩] at hfr
                simp only [Int.toNat_natCast] at hfr
                rw [hfr] at hm
                simp only at hm
                have w2 : IntKind.i64.wrap ((s : Int) + q) = ((s + q : Nat) : Int) := by rw [wrap_i64 _ (by omega) (by omega)]; omega
                have p1 : (s : Int) ≤ ((s + q : Nat) : Int) := by omega
                have p2 : s + q ≤ rest.length := by omega
                have p3 : ((s + q : Nat) : Int) ≤ rest.length := by omega
                have p4 : s ≤ s + q := by omega
                have k1 : List.drop s (List.take (s + q) (bR rest)) = bR ((rest.drop s).take q) := by
                  rw [bR_take, bR_drop, List.drop_take]
                  congr 2
                  omega
                have k2 := bR_drop rest (s + q)
                have k4 : List.take rest.length (bR rest) = bR rest := List.take_of_length_le (by rw [e1]; exact Nat.le_refl _)
                have hdl : (rest.drop (s + q)).length + 1 ≤ rest.length := by rw [List.length_drop]; omega
                have hok2 : okB (rest.drop (s + q)) := fun z hz => ho z (List.mem_of_mem_drop hz)
                obtain ⟨t, ht⟩ := ex_eq (s + q)
                rw [ht] at w2 p1 p2 p3 p4 k1 k2 hm hdl hok2
                generalize (rest.drop s).take q = r at *
                have m1 : (l.length + 1) * 24 ≤ 140737488355328 := by omega
                have m2 : l.length + 1 ≤ 140737488355328 := by omega
                have e3 := rcN_app l [r]
                have e4 : rcN [r] = [[PV.sl false 1 (bR r)]] := rfl
                have e5 := rcN_len l
                left
                refine ⟨(rest.drop t, l ++ [r]), ?_⟩
                have hfin : (okB (rest.drop t) ∧ (rest.drop t).length + (l ++ [r]).length ≤ 70000 ∧ ∃ n, (rest.drop t).length + 1 ≤ n ∧ (match recF n (rest.drop t) with | some q => some ((l ++ [r]) ++ q) | none => none) = R) ∧ (rest.drop t).length < rest.length := by
                  refine ⟨⟨hok2, by rw [List.length_append, List.length_singleton]; omega, n, by omega, ?_⟩, by omega⟩
                  rw [← hm]
                  cases recF n (rest.drop t) with
                  | none => rfl
                  | some q => simp
                have hbody : ∃ s', evCode (evC Dg) 70010 c29b0 (S29 (rest, l)) = some (.normal s') ∧ norm [0, 4] 2 s' = S29 (rest.drop t, l ++ [r]) := by
                  clear hfin
                  unfold c29b0
                  simp [evCode, evOps, evOne, evOp, evPur, evEff, evPur.chunks, fillP, AOp.isEff, AO.ev, putP, PV.cells, PV.leaf, getB, getM, mapE, keyC, mapRows, mfind, eq1, eqL, scal, binP, unP, minP, maxP, foldP, PV.lt, PV.lt.ltL, endP, expoAll, expo, expo.expoL, frIds, frIds.frIdsL, nodupN, kill, cls, clsFuel, resO, RV.get, loadP, evC_p, evC_s, endS, endT, rowsOf, callP, thinL, unfr, unfr.unfrL, PV.noMem, PV.noMem.noMemL, optI, mapO, norm, trimT, trimB, forget, hasN, blksLt, List.set, S29, e1, hpos, hpos', h38, c2, c3, w1, c4, w2, p1, p2, p3, p4, ht, k1, k2, k4, m1, m2, e3, e4, e5]
                obtain ⟨s', g1, g2⟩ := hbody
                exact ⟨s', g1, g2, hfin⟩
        · refine .inr (bad (by rw [hfr, if_neg (fun h => c1 h.1)]) ?_)
          unfold c29b0
          simp [evCode, evOps, evOne, evOp, evPur, evEff, evPur.chunks, fillP, AOp.isEff, AO.ev, putP, PV.cells, PV.leaf, getB, getM, mapE, keyC, mapRows, mfind, eq1, eqL, scal, binP, unP, minP, maxP, foldP, PV.lt, PV.lt.ltL, endP, expoAll, expo, expo.expoL, frIds, frIds.frIdsL, nodupN, kill, cls, clsFuel, resO, RV.get, loadP, evC_p, evC_s, endS, endT, rowsOf, callP, thinL, unfr, unfr.unfrL, PV.noMem, PV.noMem.noMemL, optI, mapO, norm, trimT, trimB, forget, hasN, blksLt, List.set, S29, e1, hpos, hpos', h38, c1])
    (b, []) ⟨hb, by simp; omega, b.length + 1, Nat.le_refl _, by rw [← hR]; cases recF (b.length + 1) b <;> simp⟩ (by simp only; omega) s0 E hE h0
  obtain ⟨o, ho, h⟩ := H
  subst ho
  rcases h with h | ⟨h1, st, rfl, h2⟩
  · exact .inl h
  · exact .inr ⟨h1, st, rfl, h2⟩
/-- what the reference's records answers -/
def rs29 (b : List Nat) : PV := match recF (b.length + 1) b with
  | some l => .tup [.fr 1 (rcN l), .bool true]
  | none => .tup [.fr 1 [], .bool false]
set_option maxRecDepth 100000 in
theorem f29 (b : List Nat) (hb : okB b) (hl : b.length ≤ 70000) : evE Dg 29 [.sl false 1 (bR b)] = some (rs29 b) := by
  have T1 := loop29 b hb hl
  have z0 : rcN [] = [] := rfl
  refine evE_intro 70010 D29 rfl ?_
  unfold rs29
  rcases hq : recF (b.length + 1) b with _ | l
  · rw [hq] at T1
    unfold c29
    simp [evCode, evOps, evOne, evOp, evPur, evEff, evPur.chunks, fillP, AOp.isEff, AO.ev, putP, PV.cells, PV.leaf, getB, getM, mapE, keyC, mapRows, mfind, eq1, eqL, scal, binP, unP, minP, maxP, foldP, PV.lt, PV.lt.ltL, endP, expoAll, expo, expo.expoL, frIds, frIds.frIdsL, nodupN, kill, cls, clsFuel, resO, RV.get, loadP, evC_p, evC_s, endS, endT, rowsOf, callP, thinL, unfr, unfr.unfrL, PV.noMem, PV.noMem.noMemL, optI, mapO, norm, trimT, trimB, forget, hasN, blksLt, List.set]
    generalize hE : evLoop _ _ _ _ _ = E
    rcases T1 _ _ hE (by simp [evCode, evOps, evOne, evOp, evPur, evEff, evPur.chunks, fillP, AOp.isEff, AO.ev, putP, PV.cells, PV.leaf, getB, getM, mapE, keyC, mapRows, mfind, eq1, eqL, scal, binP, unP, minP, maxP, foldP, PV.lt, PV.lt.ltL, endP, expoAll, expo, expo.expoL, frIds, frIds.frIdsL, nodupN, kill, cls, clsFuel, resO, RV.get, loadP, evC_p, evC_s, endS, endT, rowsOf, callP, thinL, unfr, unfr.unfrL, PV.noMem, PV.noMem.noMemL, optI, mapO, norm, trimT, trimB, forget, hasN, blksLt, List.set, S29, z0]) with ⟨l, h, _⟩ | ⟨_, st, h, h2⟩
    · cases h
    · rw [h]
      simp [evCode, evOps, evOne, evOp, evPur, evEff, evPur.chunks, fillP, AOp.isEff, AO.ev, putP, PV.cells, PV.leaf, getB, getM, mapE, keyC, mapRows, mfind, eq1, eqL, scal, binP, unP, minP, maxP, foldP, PV.lt, PV.lt.ltL, endP, expoAll, expo, expo.expoL, frIds, frIds.frIdsL, nodupN, kill, cls, clsFuel, resO, RV.get, loadP, evC_p, evC_s, endS, endT, rowsOf, callP, thinL, unfr, unfr.unfrL, PV.noMem, PV.noMem.noMemL, optI, mapO, norm, trimT, trimB, forget, hasN, blksLt, List.set] at h2
      simp only []
      rw [if_pos h2.1]
      exact h2.2
  · rw [hq] at T1
    have el := rcN_len l
    have hz : bR [] = [] := rfl
    unfold c29
    simp [evCode, evOps, evOne, evOp, evPur, evEff, evPur.chunks, fillP, AOp.isEff, AO.ev, putP, PV.cells, PV.leaf, getB, getM, mapE, keyC, mapRows, mfind, eq1, eqL, scal, binP, unP, minP, maxP, foldP, PV.lt, PV.lt.ltL, endP, expoAll, expo, expo.expoL, frIds, frIds.frIdsL, nodupN, kill, cls, clsFuel, resO, RV.get, loadP, evC_p, evC_s, endS, endT, rowsOf, callP, thinL, unfr, unfr.unfrL, PV.noMem, PV.noMem.noMemL, optI, mapO, norm, trimT, trimB, forget, hasN, blksLt, List.set]
    generalize hE : evLoop _ _ _ _ _ = E
    rcases T1 _ _ hE (by simp [evCode, evOps, evOne, evOp, evPur, evEff, evPur.chunks, fillP, AOp.isEff, AO.ev, putP, PV.cells, PV.leaf, getB, getM, mapE, keyC, mapRows, mfind, eq1, eqL, scal, binP, unP, minP, maxP, foldP, PV.lt, PV.lt.ltL, endP, expoAll, expo, expo.expoL, frIds, frIds.frIdsL, nodupN, kill, cls, clsFuel, resO, RV.get, loadP, evC_p, evC_s, endS, endT, rowsOf, callP, thinL, unfr, unfr.unfrL, PV.noMem, PV.noMem.noMemL, optI, mapO, norm, trimT, trimB, forget, hasN, blksLt, List.set, S29, z0]) with ⟨l', h, h2⟩ | ⟨h, _⟩
    · cases h
      rw [h2]
      unfold c29b0
      simp [evCode, evOps, evOne, evOp, evPur, evEff, evPur.chunks, fillP, AOp.isEff, AO.ev, putP, PV.cells, PV.leaf, getB, getM, mapE, keyC, mapRows, mfind, eq1, eqL, scal, binP, unP, minP, maxP, foldP, PV.lt, PV.lt.ltL, endP, expoAll, expo, expo.expoL, frIds, frIds.frIdsL, nodupN, kill, cls, clsFuel, resO, RV.get, loadP, evC_p, evC_s, endS, endT, rowsOf, callP, thinL, unfr, unfr.unfrL, PV.noMem, PV.noMem.noMemL, optI, mapO, norm, trimT, trimB, forget, hasN, blksLt, List.set, S29, hz, el]
    · cases h
end Go.Proofs.Ythoncigfbhinlaa
