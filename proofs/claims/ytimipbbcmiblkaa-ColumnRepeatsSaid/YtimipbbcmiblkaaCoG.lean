/- column: the coding of differences. -/
import Derived.Test.YtimipbbcmiblkaaCoF
namespace Go.Proofs.Ytimipbbcmiblkaa
open Go Go.RowKit
set_option linter.unusedVariables false
set_option linter.unusedSimpArgs false
set_option maxHeartbeats 4000000

theorem wrap_rng (z : Int) : -9223372036854775808 ≤ IntKind.i64.wrap z ∧ IntKind.i64.wrap z ≤ 9223372036854775807 := by
  rw [IntKind.wrap_i64]
  omega
/-- the differences, if there are any -/
def dif (last : Int) : List Val → Option (List Nat)
  | [] => some []
  | v :: r => if v.1 = 0 then none else (dif v.2.1 r).map (putI (IntKind.i64.wrap (v.2.1 - last)) ++ ·)
def difR (k : Int) (l : List Val) : Option (List Nat) := if k = 3 then none else (dif 0 l).map (2 :: ·)
def resO3 (o : Option (List Nat)) : PV := match o with
  | none => .v (.slice none 0 0)
  | some D => .fr 1 (bR D)
def S33 (x : Bool) (l : List Val) (k : Nat) (q : List Nat × Int) : St := ⟨[.top, .top, .top, .top, .top, .own 0 q.1.length 0 q.1.length, .int .i64 q.2, .top, .top, .top, .top, .top, eV x l, .int .i64 (l.length : Int), .int .i64 (k : Int)] ++ List.replicate 17 .top, [some ⟨q.1.length, 1, true, bR q.1⟩]⟩
def I33 (l : List Val) (k : Nat) (q : List Nat × Int) : Prop := ∃ A, q.1 = 2 :: A ∧ A.length ≤ 10 * k ∧ dif 0 l = (dif q.2 (l.drop k)).map (A ++ ·)
theorem drop_cons {α : Type} {l : List α} {k : Nat} {v : α} (h : l[k]? = some v) : l.drop k = v :: l.drop (k + 1) := by
  obtain ⟨hk, e⟩ := List.getElem?_eq_some_iff.1 h
  rw [List.drop_eq_getElem_cons hk, e]
set_option maxRecDepth 100000 in
theorem f33 (x : Bool) (k : Int) (l : List Val) (hl : l.length ≤ 20000) : evE Dg 33 [.int .i64 k, eV x l] = some (resO3 (difR k l)) := by
  have e1 := vRows_len l
  have hb0 : ∀ b, Nat.blt b 0 = false := fun b => by cases b <;> rfl
  by_cases hk : k = 3
  · subst hk
    have : difR 3 l = none := rfl
    rw [this]
    refine evE_intro 1 D33 rfl ?_
    unfold c33
    simp [evCode, evOps, evOne, evOp, evPur, evEff, evPur.chunks, fillP, AOp.isEff, AO.ev, putP, PV.cells, PV.leaf, getB, getM, mapE, iterE, keyC, mapRows, mfind, eq1, eqL, scal, binP, unP, minP, maxP, foldP, PV.lt, PV.lt.ltL, endP, expoAll, expoG, expo, expo.expoL, frIds, frIds.frIdsL, nodupN, kill, cls, clsFuel, resO, RV.get, loadP, evC_p, evC_s, endS, endT, rowsOf, callP, thinL, unfr, unfr.unfrL, PV.noMem, PV.noMem.noMemL, optI, mapO, norm, trimT, trimB, forget, hasN, blksLt, List.set, softChk, softGo, softRd, effTg, rdP, resO3]
  · have e2 : difR k l = (dif 0 l).map (2 :: ·) := by unfold difR; rw [if_neg hk]
    rw [e2]
    have H := loop_inv (body := evCode (evC Dg) (l.length + 1) c33b0) (keep := [5, 6, 12, 13, 14]) (n0 := 1) (fuel := l.length + 1) l (S33 x l) (I33 l) (fun s => dif 0 l = none ∧ s.sl[4]?.getD .top = .v (.slice none 0 0))
      (by
        rintro i v ⟨B, last⟩ hu hi ⟨A, hA, hAl, hD⟩
        simp only at hA hD
        rw [drop_cons hu] at hD
        have r1 := vRows_get hu
        have g1 := vRows_got hu
        have hi' : (i : Int) < l.length := by omega
        have w1 := wrap_i64 ((i : Int) + 1) (by omega) (by omega)
        by_cases h0 : v.1 = 0
        · right
          have hn : dif 0 l = none := by rw [hD, dif, if_pos h0]; rfl
          unfold c33b0
          simp [evCode, evOps, evOne, evOp, evPur, evEff, evPur.chunks, fillP, AOp.isEff, AO.ev, putP, PV.cells, PV.leaf, getB, getM, mapE, iterE, keyC, mapRows, mfind, eq1, eqL, scal, binP, unP, minP, maxP, foldP, PV.lt, PV.lt.ltL, endP, expoAll, expoG, expo, expo.expoL, frIds, frIds.frIdsL, nodupN, kill, cls, clsFuel, resO, RV.get, loadP, evC_p, evC_s, endS, endT, rowsOf, callP, thinL, unfr, unfr.unfrL, PV.noMem, PV.noMem.noMemL, optI, mapO, norm, trimT, trimB, forget, hasN, blksLt, List.set, softChk, softGo, softRd, effTg, rdP, S33, eV, vRow, e1, r1, g1, hi', hi, w1, h0, hn]
        · left
          obtain ⟨z1, z2⟩ := wrap_rng (v.2.1 - last)
          have h45 := f45 _ z1 z2
          obtain ⟨p0, p1⟩ := putI_len z1 z2
          have hD2 : dif 0 l = (dif v.2.1 (l.drop (i + 1))).map ((A ++ putI (IntKind.i64.wrap (v.2.1 - last))) ++ ·) := by
            rw [hD, dif, if_neg h0, Option.map_map]
            congr 1
            funext t
            simp
          have hJ : I33 l (i + 1) (B ++ putI (IntKind.i64.wrap (v.2.1 - last)), v.2.1) := ⟨A ++ putI (IntKind.i64.wrap (v.2.1 - last)), by simp [hA], by rw [List.length_append]; omega, hD2⟩
          have hBl : B.length ≤ 200001 := by rw [hA]; simp; omega
          refine ⟨(B ++ putI (IntKind.i64.wrap (v.2.1 - last)), v.2.1), ?_⟩
          refine (fun ⟨s', q1, q2⟩ => ⟨s', q1, q2, hJ⟩ : (∃ s', _ ∧ _) → _) ?_
          clear hJ hD2 hD
          generalize hw : IntKind.i64.wrap (v.2.1 - last) = w at *
          generalize putI w = Q at *
          have lB := bR_len B
          have lQ := bR_len Q
          have aQ := bR_all Q
          have aQ' := bR_lt Q
          have m1 : (B.length + Q.length) * 1 ≤ 140737488355328 := by omega
          have m2 : B.length + Q.length ≤ 140737488355328 := by omega
          have tQ : (bR Q).take Q.length = bR Q := List.take_of_length_le (by rw [lQ]; exact Nat.le_refl _)
          have im : ∀ rows, impB (PV.fr 1 rows) = [⟨rows.length, 1, true, rows⟩] := fun _ => rfl
          have iv : ∀ k rows, impV k (PV.fr 1 rows) = .own k rows.length 0 rows.length := fun _ _ => rfl
          have eA := bR_app B Q
          have n1 : Nat.blt 0 1 = true := rfl
          unfold c33b0
          simp [evCode, evOps, evOne, evOp, evPur, evEff, evPur.chunks, fillP, AOp.isEff, AO.ev, putP, PV.cells, PV.leaf, getB, getM, mapE, iterE, keyC, mapRows, mfind, eq1, eqL, scal, binP, unP, minP, maxP, foldP, PV.lt, PV.lt.ltL, endP, expoAll, expoG, expo, expo.expoL, frIds, frIds.frIdsL, nodupN, kill, cls, clsFuel, resO, RV.get, loadP, evC_p, evC_s, endS, endT, rowsOf, callP, thinL, unfr, unfr.unfrL, PV.noMem, PV.noMem.noMemL, optI, mapO, norm, trimT, trimB, forget, hasN, blksLt, List.set, softChk, softGo, softRd, effTg, rdP, S33, eV, vRow, e1, r1, g1, hi', hi, w1, h0, hw, h45, im, iv, lB, lQ, aQ, aQ', m1, m2, tQ, hb0, eA, n1])
      (by
        rintro q _ s
        unfold c33b0
        simp [evCode, evOps, evOne, evOp, evPur, evEff, evPur.chunks, fillP, AOp.isEff, AO.ev, putP, PV.cells, PV.leaf, getB, getM, mapE, iterE, keyC, mapRows, mfind, eq1, eqL, scal, binP, unP, minP, maxP, foldP, PV.lt, PV.lt.ltL, endP, expoAll, expoG, expo, expo.expoL, frIds, frIds.frIdsL, nodupN, kill, cls, clsFuel, resO, RV.get, loadP, evC_p, evC_s, endS, endT, rowsOf, callP, thinL, unfr, unfr.unfrL, PV.noMem, PV.noMem.noMemL, optI, mapO, norm, trimT, trimB, forget, hasN, blksLt, List.set, softChk, softGo, softRd, effTg, rdP, S33, eV, e1])
      (by omega) ([2], 0) ⟨[], rfl, by simp, by simp⟩
    refine evE_intro (l.length + 1) D33 rfl ?_
    unfold c33
    simp [evCode, evOps, evOne, evOp, evPur, evEff, evPur.chunks, fillP, AOp.isEff, AO.ev, putP, PV.cells, PV.leaf, getB, getM, mapE, iterE, keyC, mapRows, mfind, eq1, eqL, scal, binP, unP, minP, maxP, foldP, PV.lt, PV.lt.ltL, endP, expoAll, expoG, expo, expo.expoL, frIds, frIds.frIdsL, nodupN, kill, cls, clsFuel, resO, RV.get, loadP, evC_p, evC_s, endS, endT, rowsOf, callP, thinL, unfr, unfr.unfrL, PV.noMem, PV.noMem.noMemL, optI, mapO, norm, trimT, trimB, forget, hasN, blksLt, List.set, softChk, softGo, softRd, effTg, rdP, eV, e1, hk]
    generalize hE : evLoop _ _ _ _ _ = E
    rcases H _ _ hE (by simp [evCode, evOps, evOne, evOp, evPur, evEff, evPur.chunks, fillP, AOp.isEff, AO.ev, putP, PV.cells, PV.leaf, getB, getM, mapE, iterE, keyC, mapRows, mfind, eq1, eqL, scal, binP, unP, minP, maxP, foldP, PV.lt, PV.lt.ltL, endP, expoAll, expoG, expo, expo.expoL, frIds, frIds.frIdsL, nodupN, kill, cls, clsFuel, resO, RV.get, loadP, evC_p, evC_s, endS, endT, rowsOf, callP, thinL, unfr, unfr.unfrL, PV.noMem, PV.noMem.noMemL, optI, mapO, norm, trimT, trimB, forget, hasN, blksLt, List.set, softChk, softGo, softRd, effTg, rdP, S33, eV, e1, bR]) with ⟨⟨B, last⟩, ⟨A, hA, hAl, hD⟩, q2⟩ | ⟨s, q2, hn, q3⟩
    · rw [q2]
      simp only at hA hD
      rw [List.drop_length] at hD
      have : dif 0 l = some A := by rw [hD]; simp [dif]
      rw [this]
      have lB := bR_len B
      have : resO3 ((some A).map (2 :: ·)) = .fr 1 (bR B) := by rw [hA]; rfl
      rw [this]
      unfold c33b0
      simp [evCode, evOps, evOne, evOp, evPur, evEff, evPur.chunks, fillP, AOp.isEff, AO.ev, putP, PV.cells, PV.leaf, getB, getM, mapE, iterE, keyC, mapRows, mfind, eq1, eqL, scal, binP, unP, minP, maxP, foldP, PV.lt, PV.lt.ltL, endP, expoAll, expoG, expo, expo.expoL, frIds, frIds.frIdsL, nodupN, kill, cls, clsFuel, resO, RV.get, loadP, evC_p, evC_s, endS, endT, rowsOf, callP, thinL, unfr, unfr.unfrL, PV.noMem, PV.noMem.noMemL, optI, mapO, norm, trimT, trimB, forget, hasN, blksLt, List.set, softChk, softGo, softRd, effTg, rdP, S33, eV, e1, lB]
    · rw [q2, hn]
      simp [evCode, evOps, evOne, evOp, evPur, evEff, evPur.chunks, fillP, AOp.isEff, AO.ev, putP, PV.cells, PV.leaf, getB, getM, mapE, iterE, keyC, mapRows, mfind, eq1, eqL, scal, binP, unP, minP, maxP, foldP, PV.lt, PV.lt.ltL, endP, expoAll, expoG, expo, expo.expoL, frIds, frIds.frIdsL, nodupN, kill, cls, clsFuel, resO, RV.get, loadP, evC_p, evC_s, endS, endT, rowsOf, callP, thinL, unfr, unfr.unfrL, PV.noMem, PV.noMem.noMemL, optI, mapO, norm, trimT, trimB, forget, hasN, blksLt, List.set, softChk, softGo, softRd, effTg, rdP, q3, resO3]
end Go.Proofs.Ytimipbbcmiblkaa
