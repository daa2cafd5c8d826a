/- Samples: the reference's Within; Leaf. -/
import Derived.Test.YtgipbahlcnageaaPr4
namespace Go.Proofs.Ytgipbahlcnageaa
open Go Go.RowKit
set_option linter.unusedVariables false
set_option linter.unusedSimpArgs false

def S17 (u v : Int) (l : List Smp) (k : Nat) (x : List Smp) : St := ⟨[eSmps l, .top, .top, .ptr 0 1 0 0, .top, .own 2 x.length 0 x.length, .int .i64 k] ++ List.replicate 32 .top,
  [some ⟨1, 2, true, [[.int .i64 u, .int .i64 v]]⟩, some ⟨0, 4, true, []⟩, some ⟨x.length, 4, true, x.map eSmp⟩]⟩

theorem foldl_addS (u v : Int) (l x : List Smp) : l.foldl (addS u v) x = x ++ l.filter (inW u v) := by
  induction l generalizing x with
  | nil => simp
  | cons s l ih =>
    simp only [List.foldl, ih, addS, List.filter]
    split <;> simp [*]

theorem f17 (u v : Int) (l : List Smp) (hl : l.length ≤ 1000) : evE Dg 17 [eSmps l, .agg [.int .i64 u, .int .i64 v]] = some (.fr 4 ((l.filter (inW u v)).map eSmp)) := by
  refine evE_intro (l.length + 1) D17 rfl ?_
  have H := loop_foldE (body := evCode (evE Dg) (l.length + 1) c17b0) (keep := [0, 3, 5, 6]) (n0 := 3) (fuel := l.length + 1) l (S17 u v l) (addS u v) (fun k x => x.length ≤ k)
    (by
      intro k a x ha hk hx
      have h1 := wrap_i64 ((k : Int) + 1) (by omega) (by omega)
      have hk' : (k : Int) < l.length := by omega
      by_cases h2 : u ≤ a.at_
      · by_cases h3 : a.at_ < v
        · refine ⟨by simp [addS, inW, h2, h3]; omega, ?_⟩
          have h4 : (x.length + 1) * 48 ≤ 140737488355328 := by omega
          have h5 : x.length + 1 ≤ 140737488355328 := by omega
          unfold c17b0
          simp [evCode, evOps, evOne, evOp, evPur, evEff, evPur.chunks, fillP, AOp.isEff, AO.ev, putP, PV.cells, PV.leaf, getB, scal, binP, unP, minP, maxP, foldP, PV.lt, PV.lt.ltL, endP, expoAll, expo, expo.expoL, frIds, frIds.frIdsL, nodupN, kill, cls, clsFuel, resP, rowsOf, callP, unfr, unfr.unfrL, PV.noMem, PV.noMem.noMemL, optI, mapO, norm, forget, hasN, blksLt, List.set, S17, eSmps, eSmp, eTx, ha, hk', h1, h2, h3, h4, h5, addS, inW]
        · refine ⟨by simp [addS, inW, h2, h3]; omega, ?_⟩
          unfold c17b0
          simp [evCode, evOps, evOne, evOp, evPur, evEff, evPur.chunks, fillP, AOp.isEff, AO.ev, putP, PV.cells, PV.leaf, getB, scal, binP, unP, minP, maxP, foldP, PV.lt, PV.lt.ltL, endP, expoAll, expo, expo.expoL, frIds, frIds.frIdsL, nodupN, kill, cls, clsFuel, resP, rowsOf, callP, unfr, unfr.unfrL, PV.noMem, PV.noMem.noMemL, optI, mapO, norm, forget, hasN, blksLt, List.set, S17, eSmps, eSmp, eTx, ha, hk', h1, h2, h3, addS, inW]
      · refine ⟨by simp [addS, inW, h2]; omega, ?_⟩
        unfold c17b0
        simp [evCode, evOps, evOne, evOp, evPur, evEff, evPur.chunks, fillP, AOp.isEff, AO.ev, putP, PV.cells, PV.leaf, getB, scal, binP, unP, minP, maxP, foldP, PV.lt, PV.lt.ltL, endP, expoAll, expo, expo.expoL, frIds, frIds.frIdsL, nodupN, kill, cls, clsFuel, resP, rowsOf, callP, unfr, unfr.unfrL, PV.noMem, PV.noMem.noMemL, optI, mapO, norm, forget, hasN, blksLt, List.set, S17, eSmps, eSmp, eTx, ha, hk', h1, h2, addS, inW])
    (by
      intro x hx s
      unfold c17b0
      simp [evCode, evOps, evOne, evOp, evPur, evEff, evPur.chunks, fillP, AOp.isEff, AO.ev, putP, PV.cells, PV.leaf, getB, scal, binP, unP, minP, maxP, foldP, PV.lt, PV.lt.ltL, endP, expoAll, expo, expo.expoL, frIds, frIds.frIdsL, nodupN, kill, cls, clsFuel, resP, rowsOf, callP, unfr, unfr.unfrL, PV.noMem, PV.noMem.noMemL, optI, mapO, norm, forget, hasN, blksLt, List.set, S17, eSmps]) (by omega) [] (by simp)
  unfold c17
  simp [evCode, evOps, evOne, evOp, evPur, evEff, evPur.chunks, fillP, AOp.isEff, AO.ev, putP, PV.cells, PV.leaf, getB, scal, binP, unP, minP, maxP, foldP, PV.lt, PV.lt.ltL, endP, expoAll, expo, expo.expoL, frIds, frIds.frIdsL, nodupN, kill, cls, clsFuel, resP, rowsOf, callP, unfr, unfr.unfrL, PV.noMem, PV.noMem.noMemL, optI, mapO, norm, forget, hasN, blksLt, List.set, eSmps]
  generalize hE : evLoop _ _ _ _ _ = E
  obtain ⟨h1, h2⟩ := H _ _ hE (by simp [evCode, evOps, evOne, evOp, evPur, evEff, evPur.chunks, fillP, AOp.isEff, AO.ev, putP, PV.cells, PV.leaf, getB, scal, binP, unP, minP, maxP, foldP, PV.lt, PV.lt.ltL, endP, expoAll, expo, expo.expoL, frIds, frIds.frIdsL, nodupN, kill, cls, clsFuel, resP, rowsOf, callP, unfr, unfr.unfrL, PV.noMem, PV.noMem.noMemL, optI, mapO, norm, forget, hasN, blksLt, List.set, S17, eSmps])
  rw [h1]
  have h3 := foldl_addS u v l []
  rw [List.nil_append] at h3
  rw [h3]
  unfold c17b0
  simp [evCode, evOps, evOne, evOp, evPur, evEff, evPur.chunks, fillP, AOp.isEff, AO.ev, putP, PV.cells, PV.leaf, getB, scal, binP, unP, minP, maxP, foldP, PV.lt, PV.lt.ltL, endP, expoAll, expo, expo.expoL, frIds, frIds.frIdsL, nodupN, kill, cls, clsFuel, resP, rowsOf, callP, unfr, unfr.unfrL, PV.noMem, PV.noMem.noMemL, optI, mapO, norm, forget, hasN, blksLt, List.set, S17, eSmps]

/-- the last frame has the name -/
def isLeaf (n : List UInt8) (s : Smp) : Bool := match s.st.getLast? with | some t => t == n | none => false

theorem last_cases (s : Smp) : s.st = [] ∨ ∃ i t, s.st = i ++ [t] := by
  rcases List.eq_nil_or_concat s.st with h | ⟨i, t, h⟩
  · exact .inl h
  · exact .inr ⟨i, t, by simpa using h⟩

theorem f30 (n : List UInt8) (s : Smp) (hs : s.st.length ≤ 1000) : evE Dg 30 [.agg (eSmp s), .cptr [.str n]] = some (.bool (isLeaf n s)) := by
  refine evE_intro 1 D30 rfl ?_
  unfold c30
  rcases last_cases s with h | ⟨i, t, h⟩
  · simp [evCode, evOps, evOne, evOp, evPur, evEff, evPur.chunks, fillP, AOp.isEff, AO.ev, putP, PV.cells, PV.leaf, getB, scal, binP, unP, minP, maxP, foldP, PV.lt, PV.lt.ltL, endP, expoAll, expo, expo.expoL, frIds, frIds.frIdsL, nodupN, kill, cls, clsFuel, resP, rowsOf, callP, unfr, unfr.unfrL, PV.noMem, PV.noMem.noMemL, optI, mapO, norm, forget, hasN, blksLt, List.set, eSmp, eTx, h, isLeaf]
  · have hl : i.length < 1000 := by rw [h] at hs; simp at hs; omega
    have h1 := wrap_i64 (i.length : Int) (by omega) (by omega)
    have h2 : (List.map (fun t => [PV.str t]) i ++ [[PV.str t]])[i.length]? = some [PV.str t] := by simp
    have h3 : (0 : Int) < (i.length : Int) + 1 := by omega
    have h4 : (i.length : Int) + 1 - 1 = i.length := by omega
    simp [evCode, evOps, evOne, evOp, evPur, evEff, evPur.chunks, fillP, AOp.isEff, AO.ev, putP, PV.cells, PV.leaf, getB, scal, binP, unP, minP, maxP, foldP, PV.lt, PV.lt.ltL, endP, expoAll, expo, expo.expoL, frIds, frIds.frIdsL, nodupN, kill, cls, clsFuel, resP, rowsOf, callP, unfr, unfr.unfrL, PV.noMem, PV.noMem.noMemL, optI, mapO, norm, forget, hasN, blksLt, List.set, eSmp, eTx, h, isLeaf, h1, h2, h3, h4]

theorem f18 (n : List UInt8) (l : List Smp) (hl : l.length ≤ 1000) (hs : ∀ s ∈ l, s.st.length ≤ 1000) : evE Dg 18 [eSmps l, .str n] = some (.int .i64 (sumW (isLeaf n) l)) := by
  refine evE_intro 1 D18 rfl ?_
  unfold c18
  have h := f29 30 [.cptr [.str n]] rfl (isLeaf n) l (by omega) (fun s hm => f30 n s (hs s hm))
  have hc : mapO (cls clsFuel [some ⟨1, 1, true, [[.str n]]⟩]) [eSmps l, .fn 30 [.ptr 0 1 0 0]] = some [eSmps l, .fn 30 [.cptr [.str n]]] := rfl
  have ht : callP (evE Dg) [some ⟨1, 1, true, [[.str n]]⟩] false 29 [eSmps l, .fn 30 [.ptr 0 1 0 0]] = some (.int .i64 (sumW (isLeaf n) l), []) := by
    unfold callP
    rw [hc]
    simp only [h]
    rfl
  simp only [eSmps] at ht
  simp [evCode, evOps, evOne, evOp, evPur, AOp.isEff, AO.ev, putP, PV.cells, PV.leaf, getB, endP, expoAll, PV.lt, PV.lt.ltL, eSmps, ht]
  simp [evCode, evOps, evOne, evOp, evPur, evEff, evPur.chunks, fillP, AOp.isEff, AO.ev, putP, PV.cells, PV.leaf, getB, scal, binP, unP, minP, maxP, foldP, PV.lt, PV.lt.ltL, endP, expoAll, expo, expo.expoL, frIds, frIds.frIdsL, nodupN, kill, cls, clsFuel, resP, rowsOf, callP, unfr, unfr.unfrL, PV.noMem, PV.noMem.noMemL, optI, mapO, norm, forget, hasN, blksLt, List.set, eSmps]

def S19 (n : List UInt8) (l : List Smp) (k : Nat) (x : Int) : St := ⟨[eSmps l, .str n, .top, .top, .top, .int .i64 x, .int .i64 k] ++ List.replicate 44 .top, []⟩

theorem f19 (n : List UInt8) (l : List Smp) (hl : l.length ≤ 1000) (hs : ∀ s ∈ l, s.st.length ≤ 1000) : evE Dg 19 [eSmps l, .str n] = some (.int .i64 (sumW (isLeaf n) l)) := by
  refine evE_intro (l.length + 1) D19 rfl ?_
  have H := loop_foldE (body := evCode (evE Dg) (l.length + 1) c19b0) (keep := [0, 1, 5, 6]) (n0 := 0) (fuel := l.length + 1) l (S19 n l) (addW (isLeaf n)) (fun _ x => 0 ≤ x ∧ x ≤ 1000000000000000)
    (by
      intro k a x ha hk hx
      refine ⟨addW_le _ hx, ?_⟩
      have h1 := wrap_i64 ((k : Int) + 1) (by omega) (by omega)
      have h25 := f27 a
      have hs := hs a (List.mem_of_getElem? ha)
      have hk' : (k : Int) < l.length := by omega
      unfold c19b0
      by_cases hi : inR a = true
      · obtain ⟨g1, g2⟩ := inR_wt hi
        have w2 := wrap_i64 (x + a.wt) (by omega) (by omega)
        rw [hi] at h25
        simp only [eSmp, eTx] at h25
        rcases last_cases a with h | ⟨i, t, h⟩
        · rw [h] at h25
          simp at h25
          simp [evCode, evOps, evOne, evOp, evPur, evEff, evPur.chunks, fillP, AOp.isEff, AO.ev, putP, PV.cells, PV.leaf, getB, scal, binP, unP, minP, maxP, foldP, PV.lt, PV.lt.ltL, endP, expoAll, expo, expo.expoL, frIds, frIds.frIdsL, nodupN, kill, cls, clsFuel, resP, rowsOf, callP, unfr, unfr.unfrL, PV.noMem, PV.noMem.noMemL, optI, mapO, norm, forget, hasN, blksLt, List.set, S19, eSmps, eSmp, eTx, ha, hk', h25, h1, addW, hi, isLeaf, h]
        · have hl : i.length < 1000 := by rw [h] at hs; simp at hs; omega
          have w3 := wrap_i64 (i.length : Int) (by omega) (by omega)
          have h2 : (List.map (fun t => [PV.str t]) i ++ [[PV.str t]])[i.length]? = some [PV.str t] := by simp
          have h3 : (0 : Int) < (i.length : Int) + 1 := by omega
          have h4 : (i.length : Int) + 1 - 1 = i.length := by omega
          rw [h] at h25
          simp at h25
          by_cases ht : t = n
          · subst ht
            simp [evCode, evOps, evOne, evOp, evPur, evEff, evPur.chunks, fillP, AOp.isEff, AO.ev, putP, PV.cells, PV.leaf, getB, scal, binP, unP, minP, maxP, foldP, PV.lt, PV.lt.ltL, endP, expoAll, expo, expo.expoL, frIds, frIds.frIdsL, nodupN, kill, cls, clsFuel, resP, rowsOf, callP, unfr, unfr.unfrL, PV.noMem, PV.noMem.noMemL, optI, mapO, norm, forget, hasN, blksLt, List.set, S19, eSmps, eSmp, eTx, ha, hk', h25, h1, w2, w3, h2, h3, h4, addW, hi, min_swap, isLeaf, h]
          · simp [evCode, evOps, evOne, evOp, evPur, evEff, evPur.chunks, fillP, AOp.isEff, AO.ev, putP, PV.cells, PV.leaf, getB, scal, binP, unP, minP, maxP, foldP, PV.lt, PV.lt.ltL, endP, expoAll, expo, expo.expoL, frIds, frIds.frIdsL, nodupN, kill, cls, clsFuel, resP, rowsOf, callP, unfr, unfr.unfrL, PV.noMem, PV.noMem.noMemL, optI, mapO, norm, forget, hasN, blksLt, List.set, S19, eSmps, eSmp, eTx, ha, hk', h25, h1, w2, w3, h2, h3, h4, addW, hi, isLeaf, h, ht]
      · have hi : inR a = false := by simpa using hi
        rw [hi] at h25
        simp only [eSmp, eTx] at h25
        simp [evCode, evOps, evOne, evOp, evPur, evEff, evPur.chunks, fillP, AOp.isEff, AO.ev, putP, PV.cells, PV.leaf, getB, scal, binP, unP, minP, maxP, foldP, PV.lt, PV.lt.ltL, endP, expoAll, expo, expo.expoL, frIds, frIds.frIdsL, nodupN, kill, cls, clsFuel, resP, rowsOf, callP, unfr, unfr.unfrL, PV.noMem, PV.noMem.noMemL, optI, mapO, norm, forget, hasN, blksLt, List.set, S19, eSmps, eSmp, eTx, ha, hk', h25, h1, addW, hi])
    (by
      intro x hx s
      unfold c19b0
      simp [evCode, evOps, evOne, evOp, evPur, evEff, evPur.chunks, fillP, AOp.isEff, AO.ev, putP, PV.cells, PV.leaf, getB, scal, binP, unP, minP, maxP, foldP, PV.lt, PV.lt.ltL, endP, expoAll, expo, expo.expoL, frIds, frIds.frIdsL, nodupN, kill, cls, clsFuel, resP, rowsOf, callP, unfr, unfr.unfrL, PV.noMem, PV.noMem.noMemL, optI, mapO, norm, forget, hasN, blksLt, List.set, S19, eSmps]) (by omega) 0 (by omega)
  unfold c19
  simp [evCode, evOps, evOne, evOp, evPur, evEff, evPur.chunks, fillP, AOp.isEff, AO.ev, putP, PV.cells, PV.leaf, getB, scal, binP, unP, minP, maxP, foldP, PV.lt, PV.lt.ltL, endP, expoAll, expo, expo.expoL, frIds, frIds.frIdsL, nodupN, kill, cls, clsFuel, resP, rowsOf, callP, unfr, unfr.unfrL, PV.noMem, PV.noMem.noMemL, optI, mapO, norm, forget, hasN, blksLt, List.set, eSmps]
  generalize hE : evLoop _ _ _ _ _ = E
  obtain ⟨h1, h2⟩ := H _ _ hE (by simp [evCode, evOps, evOne, evOp, evPur, evEff, evPur.chunks, fillP, AOp.isEff, AO.ev, putP, PV.cells, PV.leaf, getB, scal, binP, unP, minP, maxP, foldP, PV.lt, PV.lt.ltL, endP, expoAll, expo, expo.expoL, frIds, frIds.frIdsL, nodupN, kill, cls, clsFuel, resP, rowsOf, callP, unfr, unfr.unfrL, PV.noMem, PV.noMem.noMemL, optI, mapO, norm, forget, hasN, blksLt, List.set, S19, eSmps])
  rw [h1]
  unfold c19b0
  simp [evCode, evOps, evOne, evOp, evPur, evEff, evPur.chunks, fillP, AOp.isEff, AO.ev, putP, PV.cells, PV.leaf, getB, scal, binP, unP, minP, maxP, foldP, PV.lt, PV.lt.ltL, endP, expoAll, expo, expo.expoL, frIds, frIds.frIdsL, nodupN, kill, cls, clsFuel, resP, rowsOf, callP, unfr, unfr.unfrL, PV.noMem, PV.noMem.noMemL, optI, mapO, norm, forget, hasN, blksLt, List.set, S19, eSmps]
  rfl
end Go.Proofs.Ytgipbahlcnageaa
