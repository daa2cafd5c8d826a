/- ring: records, one after the other. -/
import Derived.Test.YthoncigfbhinlaaRgG
namespace Go.Proofs.Ythoncigfbhinlaa
open Go Go.RowKit
set_option linter.unusedVariables false
set_option linter.unusedSimpArgs false
set_option maxHeartbeats 8000000

theorem decGo_size : ∀ (f i u : Nat) (l : List Nat), (decGo f i u l).2.2 = 0 → i + 1 ≤ (decGo f i u l).2.1 ∧ (decGo f i u l).2.1 ≤ i + l.length
  | 0, i, u, l, h => by simp [decGo] at h
  | f + 1, i, u, [], h => by simp [decGo] at h
  | f + 1, i, u, c :: l, h => by
    simp only [decGo] at h ⊢
    split at h
    · simp at h
    · rename_i h1
      rw [if_neg h1]
      split at h
      · rename_i h2
        rw [if_pos h2]
        have := decGo_size f (i + 1) _ l h
        simp only [List.length_cons]
        omega
      · rename_i h2
        rw [if_neg h2]
        split at h
        · simp at h
        · rename_i h3
          rw [if_neg h3]
          simp only [List.length_cons]
          omega
/-- the record at the beginning of bytes, and where it ends -/
def frameF (b : List Nat) : Option (List Nat × Nat) :=
  if (dec b).2.2 = 0 ∧ 0 ≤ (dec b).1 ∧ (dec b).1 ≤ 2000 ∧ (dec b).1 ≤ (b.length : Int) - (dec b).2.1 then some ((b.drop (dec b).2.1).take (dec b).1.toNat, (dec b).2.1 + (dec b).1.toNat) else none
theorem frameF_size {b r : List Nat} {k : Nat} (h : frameF b = some (r, k)) : 1 ≤ k ∧ k ≤ b.length := by
  unfold frameF at h
  split at h
  · rename_i hc
    have := decGo_size 10 0 0 b hc.1
    cases h
    unfold dec at *
    omega
  · cases h
def recF : Nat → List Nat → Option (List (List Nat))
  | 0, _ => none
  | n + 1, b => if b = [] then some [] else match frameF b with
    | some (r, k) => match recF n (b.drop k) with
      | some l => some (r :: l)
      | none => none
    | none => none
/-- what the program's frame answers -/
def frP (b : List Nat) : PV := match frameF b with
  | some (r, k) => .tup [.sl true 1 (bR r), .int .i64 k, .bool true]
  | none => .tup [.fr 1 [], .int .i64 0, .bool false]
set_option maxRecDepth 100000 in
theorem f37 (x : Bool) (b : List Nat) (hl : b.length ≤ 1000000) (hb : okB b) : evE Dg 37 [eB x b] = some (frP b) := by
  have e1 := bR_len b
  have h41 := f41 x b hl hb
  have hsz := decGo_size 10 0 0 b
  change (dec b).2.2 = 0 → 0 + 1 ≤ (dec b).2.1 ∧ (dec b).2.1 ≤ 0 + b.length at hsz
  unfold frP frameF
  obtain ⟨r, hd⟩ := ex_eq (dec b)
  obtain ⟨v, s, er⟩ := r
  rw [hd] at h41 hsz ⊢
  simp only [tr3] at h41 hsz ⊢
  simp only [eB] at h41
  refine evE_intro 3 D37 rfl ?_
  unfold c37
  by_cases c1 : er = 0
  · obtain ⟨s1, s2⟩ := hsz c1
    subst c1
    by_cases c2 : v < 0
    · have c2' : ¬ 0 ≤ v := by omega
      simp [evCode, evOps, evOne, evOp, evPur, evEff, evPur.chunks, fillP, AOp.isEff, AO.ev, putP, PV.cells, PV.leaf, getB, getM, mapE, keyC, mapRows, mfind, eq1, eqL, scal, binP, unP, minP, maxP, foldP, PV.lt, PV.lt.ltL, endP, expoAll, expo, expo.expoL, frIds, frIds.frIdsL, nodupN, kill, cls, clsFuel, resO, RV.get, loadP, evC_p, evC_s, endS, endT, rowsOf, callP, thinL, unfr, unfr.unfrL, PV.noMem, PV.noMem.noMemL, optI, mapO, norm, trimT, trimB, forget, hasN, blksLt, List.set, eB, h41, c2, c2']
    · have c2' : 0 ≤ v := by omega
      by_cases c3 : 2000 < v
      · have c3' : ¬ v ≤ 2000 := by omega
        simp [evCode, evOps, evOne, evOp, evPur, evEff, evPur.chunks, fillP, AOp.isEff, AO.ev, putP, PV.cells, PV.leaf, getB, getM, mapE, keyC, mapRows, mfind, eq1, eqL, scal, binP, unP, minP, maxP, foldP, PV.lt, PV.lt.ltL, endP, expoAll, expo, expo.expoL, frIds, frIds.frIdsL, nodupN, kill, cls, clsFuel, resO, RV.get, loadP, evC_p, evC_s, endS, endT, rowsOf, callP, thinL, unfr, unfr.unfrL, PV.noMem, PV.noMem.noMemL, optI, mapO, norm, trimT, trimB, forget, hasN, blksLt, List.set, eB, h41, c2, c2', c3, c3']
      · have c3' : v ≤ 2000 := by omega
        have w1 : IntKind.i64.wrap ((b.length : Int) - s) = (b.length : Int) - s := wrap_i64 _ (by omega) (by omega)
        by_cases c4 : (b.length : Int) - s < v
        · have c4' : ¬ v ≤ (b.length : Int) - s := by omega
          simp [evCode, evOps, evOne, evOp, evPur, evEff, evPur.chunks, fillP, AOp.isEff, AO.ev, putP, PV.cells, PV.leaf, getB, getM, mapE, keyC, mapRows, mfind, eq1, eqL, scal, binP, unP, minP, maxP, foldP, PV.lt, PV.lt.ltL, endP, expoAll, expo, expo.expoL, frIds, frIds.frIdsL, nodupN, kill, cls, clsFuel, resO, RV.get, loadP, evC_p, evC_s, endS, endT, rowsOf, callP, thinL, unfr, unfr.unfrL, PV.noMem, PV.noMem.noMemL, optI, mapO, norm, trimT, trimB, forget, hasN, blksLt, List.set, eB, e1, h41, c2, c2', c3, c3', w1, c4, c4']
        · have c4' : v ≤ (b.length : Int) - s := by omega
          obtain ⟨q, rfl⟩ : ∃ q : Nat, v = q := ⟨v.toNat, by omega⟩
          have w2 : IntKind.i64.wrap ((s : Int) + q) = ((s + q : Nat) : Int) := by rw [wrap_i64 _ (by omega) (by omega)]; omega
          have p1 : (s : Int) ≤ ((s + q : Nat) : Int) := by omega
          have p2 : s + q ≤ b.length := by omega
          have p3 : ((s + q : Nat) : Int) ≤ b.length := by omega
          have p4 : s ≤ s + q := by omega
          have k1 : List.drop s (List.take (s + q) (bR b)) = bR ((b.drop s).take q) := by
            rw [bR_take, bR_drop, List.drop_take]
            congr 2
            omega
          obtain ⟨t, ht⟩ := ex_eq (s + q)
          rw [ht] at w2 p1 p2 p3 p4 k1
          simp [evCode, evOps, evOne, evOp, evPur, evEff, evPur.chunks, fillP, AOp.isEff, AO.ev, putP, PV.cells, PV.leaf, getB, getM, mapE, keyC, mapRows, mfind, eq1, eqL, scal, binP, unP, minP, maxP, foldP, PV.lt, PV.lt.ltL, endP, expoAll, expo, expo.expoL, frIds, frIds.frIdsL, nodupN, kill, cls, clsFuel, resO, RV.get, loadP, evC_p, evC_s, endS, endT, rowsOf, callP, thinL, unfr, unfr.unfrL, PV.noMem, PV.noMem.noMemL, optI, mapO, norm, trimT, trimB, forget, hasN, blksLt, List.set, eB, e1, h41, c2, c2', c3, c3', w1, c4, c4', w2, p1, p2, p3, p4, ht, k1]
  · simp [evCode, evOps, evOne, evOp, evPur, evEff, evPur.chunks, fillP, AOp.isEff, AO.ev, putP, PV.cells, PV.leaf, getB, getM, mapE, keyC, mapRows, mfind, eq1, eqL, scal, binP, unP, minP, maxP, foldP, PV.lt, PV.lt.ltL, endP, expoAll, expo, expo.expoL, frIds, frIds.frIdsL, nodupN, kill, cls, clsFuel, resO, RV.get, loadP, evC_p, evC_s, endS, endT, rowsOf, callP, thinL, unfr, unfr.unfrL, PV.noMem, PV.noMem.noMemL, optI, mapO, norm, trimT, trimB, forget, hasN, blksLt, List.set, eB, h41, c1]
end Go.Proofs.Ythoncigfbhinlaa
