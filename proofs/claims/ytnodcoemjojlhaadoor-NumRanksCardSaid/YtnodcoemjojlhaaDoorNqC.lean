/- num: the reference's Quantile, the outer loop. -/
import Derived.Test.YtnodcoemjojlhaaDoorNqB
namespace Go.Proofs.YtnodcoemjojlhaaDoor
open Go Go.RowKit
set_option linter.unusedVariables false
set_option linter.unusedSimpArgs false
set_option maxHeartbeats 8000000

def To (x : Bool) (zs : List Int) (P K : Nat) (b : Int) (f : Bool) (i : Nat) : St :=
  ⟨[eZ x zs, .int .i64 P, .int .i64 K, .top, .top, .top, .top, .top, .int .i64 b, .bool f, .int .i64 i] ++ List.replicate 70 .top, []⟩
def qual (zs : List Int) (P K : Nat) (a : Int) : Prop := P * zs.length ≤ K * cnt zs a
def BestI (zs : List Int) (P K i : Nat) (b : Int) (f : Bool) : Prop :=
  (f = false ∧ ∀ a ∈ zs.take i, ¬ qual zs P K a) ∨ (f = true ∧ b ∈ zs ∧ qual zs P K b ∧ ∀ a ∈ zs.take i, qual zs P K a → b ≤ a)
theorem mem_take_succ {zs : List Int} {i : Nat} {z a : Int} (h : zs[i]? = some z) (ha : a ∈ zs.take (i + 1)) : a ∈ zs.take i ∨ a = z := by
  rw [List.take_add_one, h, List.mem_append] at ha
  rcases ha with ha | ha
  · exact .inl ha
  · simp at ha; exact .inr ha
theorem BestI.skip {zs : List Int} {P K i : Nat} {b z : Int} {f : Bool} (h : BestI zs P K i b f) (hz : zs[i]? = some z) (hq : ¬ qual zs P K z) : BestI zs P K (i + 1) b f := by
  rcases h with ⟨h1, h2⟩ | ⟨h1, h2, h3, h4⟩
  · refine .inl ⟨h1, fun a ha => ?_⟩
    rcases mem_take_succ hz ha with ha | rfl
    · exact h2 a ha
    · exact hq
  · refine .inr ⟨h1, h2, h3, fun a ha hqa => ?_⟩
    rcases mem_take_succ hz ha with ha | rfl
    · exact h4 a ha hqa
    · exact absurd hqa hq
theorem BestI.same {zs : List Int} {P K i : Nat} {b z : Int} (h : BestI zs P K i b true) (hz : zs[i]? = some z) (hb : ¬ z < b) : BestI zs P K (i + 1) b true := by
  rcases h with ⟨h1, h2⟩ | ⟨h1, h2, h3, h4⟩
  · cases h1
  · refine .inr ⟨rfl, h2, h3, fun a ha hqa => ?_⟩
    rcases mem_take_succ hz ha with ha | rfl
    · exact h4 a ha hqa
    · omega
theorem BestI.new {zs : List Int} {P K i : Nat} {b z : Int} {f : Bool} (h : BestI zs P K i b f) (hz : zs[i]? = some z) (hq : qual zs P K z) (hb : f = true → z < b) : BestI zs P K (i + 1) z true := by
  refine .inr ⟨rfl, List.mem_of_getElem? hz, hq, fun a ha hqa => ?_⟩
  rcases mem_take_succ hz ha with ha | rfl
  · rcases h with ⟨h1, h2⟩ | ⟨h1, h2, h3, h4⟩
    · exact absurd hqa (h2 a ha)
    · have := h4 a ha hqa
      have := hb h1
      omega
  · omega
set_option maxRecDepth 100000 in
theorem outer (x : Bool) (zs : List Int) (P K : Nat) (hN : zs.length ≤ 60) (hK : K ≤ 1000000000000000) (hP : P ≤ K) (E : Option Out) (s0 : St)
    (hE : evLoop (evCode (evC Dg) 70 c22b1) [0, 1, 2, 8, 9, 10] 0 70 s0 = E) (h0 : norm [0, 1, 2, 8, 9, 10] 0 s0 = To x zs P K 0 false 0) :
    ∃ b f, BestI zs P K zs.length b f ∧ E = evCode (evC Dg) 70 c22b1 (To x zs P K b f zs.length) := by
  obtain ⟨N, hNN⟩ := ex_eq zs.length
  have hlz : (intRows zs).length = N := by simp [intRows, hNN]
  have H := loop_stop (body := evCode (evC Dg) 70 c22b1) (keep := [0, 1, 2, 8, 9, 10]) (n0 := 0) (fuel := 70) (fun y : Nat × Int × Bool => To x zs P K y.2.1 y.2.2 y.1) (fun y => N - y.1) (fun y => y.1 ≤ N ∧ BestI zs P K y.1 y.2.1 y.2.2) (fun y => y.1 = N)
    (by
      rintro ⟨i, b, f⟩ ⟨hi, hinv⟩ hs
      simp only at hi hinv hs
      have hlt : i < N := by omega
      have hlt' : (i : Int) < N := by omega
      obtain ⟨a, ha⟩ : ∃ a, zs[i]? = some a := ⟨_, List.getElem?_eq_getElem (by omega)⟩
      have row : (intRows zs)[i]? = some [PV.int .i64 a] := by unfold intRows; rw [List.getElem?_map, ha]; rfl
      have rowg : ∀ h, (intRows zs)[i]'h = [PV.int .i64 a] := fun h => by
        rw [List.getElem?_eq_getElem h] at row
        exact Option.some.inj row
      have I := inner x zs P K b f i a hN ha
      rw [hNN] at I
      have cl := cnt_le zs a
      have w0 := wrap_i64 ((i : Int) + 1) (by omega) (by omega)
      have s1 := fun h => BestI.skip hinv ha h
      have s3 := fun h1 h2 => BestI.new hinv ha h1 h2
      have hPN : P * N ≤ 1000000000000000 * 60 := Nat.mul_le_mul (by omega) (by omega)
      have hKc : K * cnt zs a ≤ 1000000000000000 * 60 := Nat.mul_le_mul hK (by omega)
      obtain ⟨c, hc⟩ := ex_eq (cnt zs a)
      have eqq : qual zs P K a ↔ P * N ≤ K * c := by unfold qual; rw [hNN, hc]
      rw [hc] at I hKc
      obtain ⟨M, hM⟩ := ex_eq (P * N)
      obtain ⟨C, hC⟩ := ex_eq (K * c)
      rw [hM, hC] at eqq
      rw [hM] at hPN
      rw [hC] at hKc
      have wM : IntKind.i64.wrap ((P : Int) * (N : Int)) = (M : Int) := by
        have : (P : Int) * (N : Int) = (M : Int) := by rw [← hM]; simp
        rw [this]; exact wrap_i64 _ (by omega) (by omega)
      have wC : IntKind.i64.wrap ((K : Int) * (c : Int)) = (C : Int) := by
        have : (K : Int) * (c : Int) = (C : Int) := by rw [← hC]; simp
        rw [this]; exact wrap_i64 _ (by omega) (by omega)
      have nN : ¬ N < N := by omega
      by_cases q : M ≤ C
      · have q' : (M : Int) ≤ C := by omega
        cases f with
        | false =>
          refine ⟨(i + 1, a, true), ?_⟩
          have s4 := s3 (eqq.2 q) (by simp)
          unfold c22b1
          simp [evCode, evOps, evOne, evOp, evPur, evEff, evPur.chunks, fillP, AOp.isEff, AO.ev, putP, PV.cells, PV.leaf, getB, getM, mapE, keyC, mapRows, mfind, eq1, eqL, scal, binP, unP, minP, maxP, foldP, PV.lt, PV.lt.ltL, endP, expoAll, expo, expo.expoL, frIds, frIds.frIdsL, nodupN, kill, cls, clsFuel, resO, RV.get, loadP, evC_p, evC_s, endS, endT, rowsOf, callP, thinL, unfr, unfr.unfrL, PV.noMem, PV.noMem.noMemL, optI, mapO, norm, trimT, trimB, forget, hasN, blksLt, List.set, To, eZ, hlz, hlt, hlt', row, rowg, w0]
          generalize hE2 : evLoop _ _ _ _ _ = E2
          have g := I _ _ hE2 (by simp [evCode, evOps, evOne, evOp, evPur, evEff, evPur.chunks, fillP, AOp.isEff, AO.ev, putP, PV.cells, PV.leaf, getB, getM, mapE, keyC, mapRows, mfind, eq1, eqL, scal, binP, unP, minP, maxP, foldP, PV.lt, PV.lt.ltL, endP, expoAll, expo, expo.expoL, frIds, frIds.frIdsL, nodupN, kill, cls, clsFuel, resO, RV.get, loadP, evC_p, evC_s, endS, endT, rowsOf, callP, thinL, unfr, unfr.unfrL, PV.noMem, PV.noMem.noMemL, optI, mapO, norm, trimT, trimB, forget, hasN, blksLt, List.set, Ti, eZ])
          rw [g]
          unfold c22b0
          simp [evCode, evOps, evOne, evOp, evPur, evEff, evPur.chunks, fillP, AOp.isEff, AO.ev, putP, PV.cells, PV.leaf, getB, getM, mapE, keyC, mapRows, mfind, eq1, eqL, scal, binP, unP, minP, maxP, foldP, PV.lt, PV.lt.ltL, endP, expoAll, expo, expo.expoL, frIds, frIds.frIdsL, nodupN, kill, cls, clsFuel, resO, RV.get, loadP, evC_p, evC_s, endS, endT, rowsOf, callP, thinL, unfr, unfr.unfrL, PV.noMem, PV.noMem.noMemL, optI, mapO, norm, trimT, trimB, forget, hasN, blksLt, List.set, Ti, eZ, hlz, hlt, hlt', row, rowg, w0, wM, wC, q, q', s4]
          omega
        | true =>
          by_cases l : a < b
          · refine ⟨(i + 1, a, true), ?_⟩
            have s4 := s3 (eqq.2 q) (fun _ => l)
            unfold c22b1
            simp [evCode, evOps, evOne, evOp, evPur, evEff, evPur.chunks, fillP, AOp.isEff, AO.ev, putP, PV.cells, PV.leaf, getB, getM, mapE, keyC, mapRows, mfind, eq1, eqL, scal, binP, unP, minP, maxP, foldP, PV.lt, PV.lt.ltL, endP, expoAll, expo, expo.expoL, frIds, frIds.frIdsL, nodupN, kill, cls, clsFuel, resO, RV.get, loadP, evC_p, evC_s, endS, endT, rowsOf, callP, thinL, unfr, unfr.unfrL, PV.noMem, PV.noMem.noMemL, optI, mapO, norm, trimT, trimB, forget, hasN, blksLt, List.set, To, eZ, hlz, hlt, hlt', row, rowg, w0]
            generalize hE2 : evLoop _ _ _ _ _ = E2
            have g := I _ _ hE2 (by simp [evCode, evOps, evOne, evOp, evPur, evEff, evPur.chunks, fillP, AOp.isEff, AO.ev, putP, PV.cells, PV.leaf, getB, getM, mapE, keyC, mapRows, mfind, eq1, eqL, scal, binP, unP, minP, maxP, foldP, PV.lt, PV.lt.ltL, endP, expoAll, expo, expo.expoL, frIds, frIds.frIdsL, nodupN, kill, cls, clsFuel, resO, RV.get, loadP, evC_p, evC_s, endS, endT, rowsOf, callP, thinL, unfr, unfr.unfrL, PV.noMem, PV.noMem.noMemL, optI, mapO, norm, trimT, trimB, forget, hasN, blksLt, List.set, Ti, eZ])
            rw [g]
            unfold c22b0
            simp [evCode, evOps, evOne, evOp, evPur, evEff, evPur.chunks, fillP, AOp.isEff, AO.ev, putP, PV.cells, PV.leaf, getB, getM, mapE, keyC, mapRows, mfind, eq1, eqL, scal, binP, unP, minP, maxP, foldP, PV.lt, PV.lt.ltL, endP, expoAll, expo, expo.expoL, frIds, frIds.frIdsL, nodupN, kill, cls, clsFuel, resO, RV.get, loadP, evC_p, evC_s, endS, endT, rowsOf, callP, thinL, unfr, unfr.unfrL, PV.noMem, PV.noMem.noMemL, optI, mapO, norm, trimT, trimB, forget, hasN, blksLt, List.set, Ti, eZ, hlz, hlt, hlt', row, rowg, w0, wM, wC, q, q', l, s4]
            omega
          · refine ⟨(i + 1, b, true), ?_⟩
            have s4 := BestI.same hinv ha l
            unfold c22b1
            simp [evCode, evOps, evOne, evOp, evPur, evEff, evPur.chunks, fillP, AOp.isEff, AO.ev, putP, PV.cells, PV.leaf, getB, getM, mapE, keyC, mapRows, mfind, eq1, eqL, scal, binP, unP, minP, maxP, foldP, PV.lt, PV.lt.ltL, endP, expoAll, expo, expo.expoL, frIds, frIds.frIdsL, nodupN, kill, cls, clsFuel, resO, RV.get, loadP, evC_p, evC_s, endS, endT, rowsOf, callP, thinL, unfr, unfr.unfrL, PV.noMem, PV.noMem.noMemL, optI, mapO, norm, trimT, trimB, forget, hasN, blksLt, List.set, To, eZ, hlz, hlt, hlt', row, rowg, w0]
            generalize hE2 : evLoop _ _ _ _ _ = E2
            have g := I _ _ hE2 (by simp [evCode, evOps, evOne, evOp, evPur, evEff, evPur.chunks, fillP, AOp.isEff, AO.ev, putP, PV.cells, PV.leaf, getB, getM, mapE, keyC, mapRows, mfind, eq1, eqL, scal, binP, unP, minP, maxP, foldP, PV.lt, PV.lt.ltL, endP, expoAll, expo, expo.expoL, frIds, frIds.frIdsL, nodupN, kill, cls, clsFuel, resO, RV.get, loadP, evC_p, evC_s, endS, endT, rowsOf, callP, thinL, unfr, unfr.unfrL, PV.noMem, PV.noMem.noMemL, optI, mapO, norm, trimT, trimB, forget, hasN, blksLt, List.set, Ti, eZ])
            rw [g]
            unfold c22b0
            simp [evCode, evOps, evOne, evOp, evPur, evEff, evPur.chunks, fillP, AOp.isEff, AO.ev, putP, PV.cells, PV.leaf, getB, getM, mapE, keyC, mapRows, mfind, eq1, eqL, scal, binP, unP, minP, maxP, foldP, PV.lt, PV.lt.ltL, endP, expoAll, expo, expo.expoL, frIds, frIds.frIdsL, nodupN, kill, cls, clsFuel, resO, RV.get, loadP, evC_p, evC_s, endS, endT, rowsOf, callP, thinL, unfr, unfr.unfrL, PV.noMem, PV.noMem.noMemL, optI, mapO, norm, trimT, trimB, forget, hasN, blksLt, List.set, Ti, eZ, hlz, hlt, hlt', row, rowg, w0, wM, wC, q, q', l, s4]
            omega
      · have q' : ¬ (M : Int) ≤ C := by omega
        have s4 := s1 (fun h => q (eqq.1 h))
        refine ⟨(i + 1, b, f), ?_⟩
        unfold c22b1
        simp [evCode, evOps, evOne, evOp, evPur, evEff, evPur.chunks, fillP, AOp.isEff, AO.ev, putP, PV.cells, PV.leaf, getB, getM, mapE, keyC, mapRows, mfind, eq1, eqL, scal, binP, unP, minP, maxP, foldP, PV.lt, PV.lt.ltL, endP, expoAll, expo, expo.expoL, frIds, frIds.frIdsL, nodupN, kill, cls, clsFuel, resO, RV.get, loadP, evC_p, evC_s, endS, endT, rowsOf, callP, thinL, unfr, unfr.unfrL, PV.noMem, PV.noMem.noMemL, optI, mapO, norm, trimT, trimB, forget, hasN, blksLt, List.set, To, eZ, hlz, hlt, hlt', row, rowg, w0]
        generalize hE2 : evLoop _ _ _ _ _ = E2
        have g := I _ _ hE2 (by simp [evCode, evOps, evOne, evOp, evPur, evEff, evPur.chunks, fillP, AOp.isEff, AO.ev, putP, PV.cells, PV.leaf, getB, getM, mapE, keyC, mapRows, mfind, eq1, eqL, scal, binP, unP, minP, maxP, foldP, PV.lt, PV.lt.ltL, endP, expoAll, expo, expo.expoL, frIds, frIds.frIdsL, nodupN, kill, cls, clsFuel, resO, RV.get, loadP, evC_p, evC_s, endS, endT, rowsOf, callP, thinL, unfr, unfr.unfrL, PV.noMem, PV.noMem.noMemL, optI, mapO, norm, trimT, trimB, forget, hasN, blksLt, List.set, Ti, eZ])
        rw [g]
        unfold c22b0
        simp [evCode, evOps, evOne, evOp, evPur, evEff, evPur.chunks, fillP, AOp.isEff, AO.ev, putP, PV.cells, PV.leaf, getB, getM, mapE, keyC, mapRows, mfind, eq1, eqL, scal, binP, unP, minP, maxP, foldP, PV.lt, PV.lt.ltL, endP, expoAll, expo, expo.expoL, frIds, frIds.frIdsL, nodupN, kill, cls, clsFuel, resO, RV.get, loadP, evC_p, evC_s, endS, endT, rowsOf, callP, thinL, unfr, unfr.unfrL, PV.noMem, PV.noMem.noMemL, optI, mapO, norm, trimT, trimB, forget, hasN, blksLt, List.set, Ti, eZ, hlz, hlt, hlt', row, rowg, w0, wM, wC, q, q', s4]
        omega)
    (by
      rintro ⟨i, b, f⟩ _ hj s
      simp only at hj
      subst hj
      unfold c22b1
      simp [evCode, evOps, evOne, evOp, evPur, evEff, evPur.chunks, fillP, AOp.isEff, AO.ev, putP, PV.cells, PV.leaf, getB, getM, mapE, keyC, mapRows, mfind, eq1, eqL, scal, binP, unP, minP, maxP, foldP, PV.lt, PV.lt.ltL, endP, expoAll, expo, expo.expoL, frIds, frIds.frIdsL, nodupN, kill, cls, clsFuel, resO, RV.get, loadP, evC_p, evC_s, endS, endT, rowsOf, callP, thinL, unfr, unfr.unfrL, PV.noMem, PV.noMem.noMemL, optI, mapO, norm, trimT, trimB, forget, hasN, blksLt, List.set, To, eZ, hlz])
    (0, 0, false) ⟨Nat.zero_le _, .inl ⟨rfl, fun a ha => by simp at ha⟩⟩ (by simp only; omega) s0 E hE (by rw [h0])
  obtain ⟨⟨i, b, f⟩, ⟨_, hinv⟩, hj, h⟩ := H
  simp only at hj hinv h
  subst hj
  rw [hNN]
  exact ⟨b, f, hinv, h⟩
end Go.Proofs.YtnodcoemjojlhaaDoor
