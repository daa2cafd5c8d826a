/- Steps, and how they are compared. -/
import Derived.Test.YtecmcggnpgjbiaaNm
namespace Go.Proofs.Ytecmcggnpgjbiaa
open Go Go.RowKit
set_option linter.unusedVariables false
set_option linter.unusedSimpArgs false
set_option maxHeartbeats 4000000

theorem ex_eq {α : Sort _} (t : α) : ∃ q, t = q := ⟨_, rfl⟩
abbrev Stp := List UInt8 × Int × Int
def row (s : Stp) : List PV := [.str s.1, .int .i64 s.2.1, .int .i64 s.2.2]
def eSp (x : Bool) (l : List Stp) : PV := .sl x 3 (l.map row)
theorem sp_got {l : List Stp} {k : Nat} {a : Stp} (h : l[k]? = some a) : ∀ q, (l.map row)[k]'q = row a := fun q => by
  have := map_get (f := row) h
  rw [List.getElem?_eq_getElem q] at this
  exact Option.some.inj this
def cmpI (x y : Int) : Int := if x < y then -1 else if y < x then 1 else 0
def cmpF (a b : Stp) : Int := if Lib.compareBytes a.1 b.1 = 0 then cmpI a.2.1 b.2.1 else Lib.compareBytes a.1 b.1
theorem cb_lt : ∀ (a b : List UInt8), Op.bytesLess b a = decide (0 < Lib.compareBytes a b)
  | [], [] => by simp [Op.bytesLess, Lib.compareBytes]
  | [], _ :: _ => by simp [Op.bytesLess, Lib.compareBytes]
  | _ :: _, [] => by simp [Op.bytesLess, Lib.compareBytes]
  | a :: xs, b :: ys => by
    have ih := cb_lt xs ys
    simp only [Op.bytesLess, Lib.compareBytes, ih]
    by_cases h1 : a < b
    · have h2 : ¬ b < a := UInt8.lt_asymm h1
      have h3 : ¬ (b == a) = true := by simp; intro h; subst h; exact UInt8.lt_irrefl _ h1
      simp [h1, h2, h3]
    · by_cases h2 : b < a
      · simp [h1, h2]
      · have h3 : b = a := UInt8.le_antisymm (UInt8.not_lt.1 h2 |> fun h => by simpa using (UInt8.not_lt.1 h1)) (by simpa using (UInt8.not_lt.1 h2))
        subst h3
        simp [h1]
theorem cb_eq : ∀ (a b : List UInt8), Lib.compareBytes a b = 0 ↔ a = b
  | [], [] => by simp [Lib.compareBytes]
  | [], _ :: _ => by simp [Lib.compareBytes]
  | _ :: _, [] => by simp [Lib.compareBytes]
  | a :: xs, b :: ys => by
    have ih := cb_eq xs ys
    simp only [Lib.compareBytes]
    by_cases h1 : a < b
    · have h3 : ¬ a = b := by intro h; subst h; exact UInt8.lt_irrefl _ h1
      simp [h1, h3]
    · by_cases h2 : b < a
      · have h3 : ¬ a = b := by intro h; subst h; exact UInt8.lt_irrefl _ h2
        simp [h1, h2, h3]
      · have h3 : a = b := UInt8.le_antisymm (UInt8.not_lt.1 h2) (UInt8.not_lt.1 h1)
        subst h3
        simp [h1, ih]
theorem f59 (x : Int) : evE Dg 59 [.int .i64 x] = some (.bool false) := by
  refine evE_intro 3 D59 rfl ?_
  unfold c59
  simp [evCode, evOps, evOne, evOp, evPur, evEff, evPur.chunks, fillP, AOp.isEff, AO.ev, putP, PV.cells, PV.leaf, getB, getM, mapE, keyC, mapRows, mfind, eq1, eqL, scal, binP, unP, minP, maxP, foldP, PV.lt, PV.lt.ltL, endP, expoAll, expo, expo.expoL, frIds, frIds.frIdsL, nodupN, kill, cls, clsFuel, resO, RV.get, loadP, evC_p, evC_s, endS, endT, rowsOf, callP, thinL, unfr, unfr.unfrL, PV.noMem, PV.noMem.noMemL, optI, mapO, norm, trimT, trimB, forget, hasN, blksLt, List.set]
theorem f45 (x y : Int) : evE Dg 45 [.int .i64 x, .int .i64 y] = some (.int .i64 (cmpI x y)) := by
  have h1 := f59 x
  have h2 := f59 y
  refine evE_intro 3 D45 rfl ?_
  unfold c45 cmpI
  by_cases c1 : x < y
  · simp [evCode, evOps, evOne, evOp, evPur, evEff, evPur.chunks, fillP, AOp.isEff, AO.ev, putP, PV.cells, PV.leaf, getB, getM, mapE, keyC, mapRows, mfind, eq1, eqL, scal, binP, unP, minP, maxP, foldP, PV.lt, PV.lt.ltL, endP, expoAll, expo, expo.expoL, frIds, frIds.frIdsL, nodupN, kill, cls, clsFuel, resO, RV.get, loadP, evC_p, evC_s, endS, endT, rowsOf, callP, thinL, unfr, unfr.unfrL, PV.noMem, PV.noMem.noMemL, optI, mapO, norm, trimT, trimB, forget, hasN, blksLt, List.set, h1, h2, c1]
  · by_cases c2 : y < x
    · simp [evCode, evOps, evOne, evOp, evPur, evEff, evPur.chunks, fillP, AOp.isEff, AO.ev, putP, PV.cells, PV.leaf, getB, getM, mapE, keyC, mapRows, mfind, eq1, eqL, scal, binP, unP, minP, maxP, foldP, PV.lt, PV.lt.ltL, endP, expoAll, expo, expo.expoL, frIds, frIds.frIdsL, nodupN, kill, cls, clsFuel, resO, RV.get, loadP, evC_p, evC_s, endS, endT, rowsOf, callP, thinL, unfr, unfr.unfrL, PV.noMem, PV.noMem.noMemL, optI, mapO, norm, trimT, trimB, forget, hasN, blksLt, List.set, h1, h2, c1, c2]
    · simp [evCode, evOps, evOne, evOp, evPur, evEff, evPur.chunks, fillP, AOp.isEff, AO.ev, putP, PV.cells, PV.leaf, getB, getM, mapE, keyC, mapRows, mfind, eq1, eqL, scal, binP, unP, minP, maxP, foldP, PV.lt, PV.lt.ltL, endP, expoAll, expo, expo.expoL, frIds, frIds.frIdsL, nodupN, kill, cls, clsFuel, resO, RV.get, loadP, evC_p, evC_s, endS, endT, rowsOf, callP, thinL, unfr, unfr.unfrL, PV.noMem, PV.noMem.noMemL, optI, mapO, norm, trimT, trimB, forget, hasN, blksLt, List.set, h1, h2, c1, c2]
theorem f67 (a b : List UInt8) : evE Dg 67 [.str a, .str b] = some (.int .i64 (Lib.compareBytes a b)) := evE_ext D67 rfl rfl
theorem f58 (a b : List UInt8) : evE Dg 58 [.str a, .str b] = some (.int .i64 (Lib.compareBytes a b)) := by
  have h := f67 a b
  refine evE_intro 3 D58 rfl ?_
  unfold c58
  simp [evCode, evOps, evOne, evOp, evPur, evEff, evPur.chunks, fillP, AOp.isEff, AO.ev, putP, PV.cells, PV.leaf, getB, getM, mapE, keyC, mapRows, mfind, eq1, eqL, scal, binP, unP, minP, maxP, foldP, PV.lt, PV.lt.ltL, endP, expoAll, expo, expo.expoL, frIds, frIds.frIdsL, nodupN, kill, cls, clsFuel, resO, RV.get, loadP, evC_p, evC_s, endS, endT, rowsOf, callP, thinL, unfr, unfr.unfrL, PV.noMem, PV.noMem.noMemL, optI, mapO, norm, trimT, trimB, forget, hasN, blksLt, List.set, h]
theorem f44 (a b : List UInt8) : evE Dg 44 [.str a, .str b] = some (.int .i64 (Lib.compareBytes a b)) := by
  have h := f58 a b
  refine evE_intro 3 D44 rfl ?_
  unfold c44
  simp [evCode, evOps, evOne, evOp, evPur, evEff, evPur.chunks, fillP, AOp.isEff, AO.ev, putP, PV.cells, PV.leaf, getB, getM, mapE, keyC, mapRows, mfind, eq1, eqL, scal, binP, unP, minP, maxP, foldP, PV.lt, PV.lt.ltL, endP, expoAll, expo, expo.expoL, frIds, frIds.frIdsL, nodupN, kill, cls, clsFuel, resO, RV.get, loadP, evC_p, evC_s, endS, endT, rowsOf, callP, thinL, unfr, unfr.unfrL, PV.noMem, PV.noMem.noMemL, optI, mapO, norm, trimT, trimB, forget, hasN, blksLt, List.set, h]
set_option maxRecDepth 100000 in
theorem f43 (a b : Int) : evE Dg 43 [.sl true 1 [[.int .i64 a], [.int .i64 b]]] = some (.int .i64 (if a = 0 then b else a)) := by
  have i1 : IntKind.i64.wrap 1 = 1 := rfl
  have i2 : IntKind.i64.wrap 2 = 2 := rfl
  refine evE_intro 4 D43 rfl ?_
  unfold c43 c43b0
  by_cases h : a = 0
  · subst h
    by_cases h2 : b = 0
    · subst h2
      simp [evCode, evOps, evOne, evOp, evPur, evEff, evPur.chunks, fillP, AOp.isEff, AO.ev, putP, PV.cells, PV.leaf, getB, getM, mapE, keyC, mapRows, mfind, eq1, eqL, scal, binP, unP, minP, maxP, foldP, PV.lt, PV.lt.ltL, endP, expoAll, expo, expo.expoL, frIds, frIds.frIdsL, nodupN, kill, cls, clsFuel, resO, RV.get, loadP, evC_p, evC_s, endS, endT, rowsOf, callP, thinL, unfr, unfr.unfrL, PV.noMem, PV.noMem.noMemL, optI, mapO, norm, trimT, trimB, forget, hasN, blksLt, List.set, i1, i2, evLoop]
    · simp [evCode, evOps, evOne, evOp, evPur, evEff, evPur.chunks, fillP, AOp.isEff, AO.ev, putP, PV.cells, PV.leaf, getB, getM, mapE, keyC, mapRows, mfind, eq1, eqL, scal, binP, unP, minP, maxP, foldP, PV.lt, PV.lt.ltL, endP, expoAll, expo, expo.expoL, frIds, frIds.frIdsL, nodupN, kill, cls, clsFuel, resO, RV.get, loadP, evC_p, evC_s, endS, endT, rowsOf, callP, thinL, unfr, unfr.unfrL, PV.noMem, PV.noMem.noMemL, optI, mapO, norm, trimT, trimB, forget, hasN, blksLt, List.set, i1, i2, evLoop, h2]
  · simp [evCode, evOps, evOne, evOp, evPur, evEff, evPur.chunks, fillP, AOp.isEff, AO.ev, putP, PV.cells, PV.leaf, getB, getM, mapE, keyC, mapRows, mfind, eq1, eqL, scal, binP, unP, minP, maxP, foldP, PV.lt, PV.lt.ltL, endP, expoAll, expo, expo.expoL, frIds, frIds.frIdsL, nodupN, kill, cls, clsFuel, resO, RV.get, loadP, evC_p, evC_s, endS, endT, rowsOf, callP, thinL, unfr, unfr.unfrL, PV.noMem, PV.noMem.noMemL, optI, mapO, norm, trimT, trimB, forget, hasN, blksLt, List.set, i1, i2, evLoop, h]
theorem f26 (a b : Stp) : evE Dg 26 [.agg (row a), .agg (row b)] = some (.int .i64 (cmpF a b)) := by
  obtain ⟨a1, a2, a3⟩ := a
  obtain ⟨b1, b2, b3⟩ := b
  have h1 := f44 a1 b1
  have h2 := f45 a2 b2
  have h3 := f43 (Lib.compareBytes a1 b1) (cmpI a2 b2)
  have hr : cmpF (a1, a2, a3) (b1, b2, b3) = if Lib.compareBytes a1 b1 = 0 then cmpI a2 b2 else Lib.compareBytes a1 b1 := rfl
  rw [hr]
  generalize Lib.compareBytes a1 b1 = c at *
  generalize cmpI a2 b2 = d at *
  refine evE_intro 3 D26 rfl ?_
  unfold c26
  simp [evCode, evOps, evOne, evOp, evPur, evEff, evPur.chunks, fillP, AOp.isEff, AO.ev, putP, PV.cells, PV.leaf, getB, getM, mapE, keyC, mapRows, mfind, eq1, eqL, scal, binP, unP, minP, maxP, foldP, PV.lt, PV.lt.ltL, endP, expoAll, expo, expo.expoL, frIds, frIds.frIdsL, nodupN, kill, cls, clsFuel, resO, RV.get, loadP, evC_p, evC_s, endS, endT, rowsOf, callP, thinL, unfr, unfr.unfrL, PV.noMem, PV.noMem.noMemL, optI, mapO, norm, trimT, trimB, forget, hasN, blksLt, List.set, row, h1, h2, h3]
theorem f30 (x : Int) : evE Dg 30 [.int .i64 x] = some (.bool (decide (-1000000000000000 ≤ x ∧ x ≤ 1000000000000000))) := by
  refine evE_intro 3 D30 rfl ?_
  unfold c30
  by_cases c1 : -1000000000000000 ≤ x
  · by_cases c2 : x ≤ 1000000000000000
    · simp [evCode, evOps, evOne, evOp, evPur, evEff, evPur.chunks, fillP, AOp.isEff, AO.ev, putP, PV.cells, PV.leaf, getB, getM, mapE, keyC, mapRows, mfind, eq1, eqL, scal, binP, unP, minP, maxP, foldP, PV.lt, PV.lt.ltL, endP, expoAll, expo, expo.expoL, frIds, frIds.frIdsL, nodupN, kill, cls, clsFuel, resO, RV.get, loadP, evC_p, evC_s, endS, endT, rowsOf, callP, thinL, unfr, unfr.unfrL, PV.noMem, PV.noMem.noMemL, optI, mapO, norm, trimT, trimB, forget, hasN, blksLt, List.set, c1, c2]
    · simp [evCode, evOps, evOne, evOp, evPur, evEff, evPur.chunks, fillP, AOp.isEff, AO.ev, putP, PV.cells, PV.leaf, getB, getM, mapE, keyC, mapRows, mfind, eq1, eqL, scal, binP, unP, minP, maxP, foldP, PV.lt, PV.lt.ltL, endP, expoAll, expo, expo.expoL, frIds, frIds.frIdsL, nodupN, kill, cls, clsFuel, resO, RV.get, loadP, evC_p, evC_s, endS, endT, rowsOf, callP, thinL, unfr, unfr.unfrL, PV.noMem, PV.noMem.noMemL, optI, mapO, norm, trimT, trimB, forget, hasN, blksLt, List.set, c1, c2]
  · simp [evCode, evOps, evOne, evOp, evPur, evEff, evPur.chunks, fillP, AOp.isEff, AO.ev, putP, PV.cells, PV.leaf, getB, getM, mapE, keyC, mapRows, mfind, eq1, eqL, scal, binP, unP, minP, maxP, foldP, PV.lt, PV.lt.ltL, endP, expoAll, expo, expo.expoL, frIds, frIds.frIdsL, nodupN, kill, cls, clsFuel, resO, RV.get, loadP, evC_p, evC_s, endS, endT, rowsOf, callP, thinL, unfr, unfr.unfrL, PV.noMem, PV.noMem.noMemL, optI, mapO, norm, trimT, trimB, forget, hasN, blksLt, List.set, c1]
/-- two steps that are not in order -/
def ordB (p s : Stp) : Bool := decide (0 ≤ cmpF p s) || (p.1 == s.1 && decide (p.2.2 = s.2.2))
theorem ordB_ref (p s : Stp) : (Op.bytesLess s.1 p.1 || (s.1 == p.1 && (decide (s.2.1 ≤ p.2.1) || decide (s.2.2 = p.2.2)))) = ordB p s := by
  obtain ⟨a1, a2, a3⟩ := p
  obtain ⟨b1, b2, b3⟩ := s
  have h1 := cb_lt a1 b1
  have h2 := cb_eq a1 b1
  unfold ordB cmpF cmpI
  simp only
  rw [h1]
  by_cases c : Lib.compareBytes a1 b1 = 0
  · have e := h2.1 c
    subst e
    rw [c]
    by_cases d1 : a2 < b2
    · have d2 : ¬ b2 ≤ a2 := by omega
      by_cases d3 : a3 = b3
      · simp [d1, d2, d3]
      · have d4 : ¬ b3 = a3 := fun h => d3 h.symm
        simp [d1, d2, d3, d4]
    · have d2 : b2 ≤ a2 := by omega
      by_cases d5 : b2 < a2
      · simp [d1, d2, d5]
      · simp [d1, d2, d5]
  · have e : ¬ a1 = b1 := fun h => c (h2.2 h)
    have e' : ¬ b1 = a1 := fun h => e h.symm
    have f1 : (a1 == b1) = false := by simpa using e
    have f2 : (b1 == a1) = false := by simpa using e'
    by_cases d : 0 < Lib.compareBytes a1 b1
    · have d' : 0 ≤ Lib.compareBytes a1 b1 := by omega
      simp [c, d, d', f1, f2]
    · have d' : ¬ 0 ≤ Lib.compareBytes a1 b1 := by omega
      simp [c, d, d', f1, f2]
/-- the error that a step has -/
def errC (l : List Stp) (k : Nat) (s : Stp) : Int :=
  if nameOk s.1 = true then (if 0 ≤ s.2.1 ∧ s.2.1 ≤ 1000000000000 ∧ -1000000000000000 ≤ s.2.2 ∧ s.2.2 ≤ 1000000000000000 then (match k, l[k - 1]? with
    | 0, _ => 0
    | _, some p => if ordB p s = true then 11 else 0
    | _, none => 0) else 2) else 3
def chkC (l : List Stp) : Int := firstF (errC l) l 0
end Go.Proofs.Ytecmcggnpgjbiaa
