/- several parts in one. -/
-- LATT
-- BIG
import Derived.Test.YtidkdiooempkpaaDoorEtPS
/- event: read (written by mkEtS.py). -/
namespace Go.Proofs.YtidkdiooempkpaaDoor
open Go Go.RowKit Go.Lib
attribute [local simp] evCode evOps evOne evOp evPur evEff evPur.chunks fillP AOp.isEff AO.ev putP PV.cells PV.leaf getB getM mapE iterE keyC mapRows mfind eq1 eqL scal binP unP minP maxP foldP PV.lt PV.lt.ltL endP expoAll expoG expo expo.expoL frIds frIds.frIdsL nodupN kill cls clsFuel resO RV.get loadP evC_p evC_s endS endT rowsOf callP thinL unfr unfr.unfrL PV.noMem PV.noMem.noMemL optI mapO norm trimT trimB forget hasN blksLt List.set softChk softGo softRd effTg tgOf chgN sameB PV.same PV.same.sameL PV.same.sameLL rdP
set_option linter.unusedVariables false
set_option linter.unusedSimpArgs false
set_option maxHeartbeats 4000000
set_option maxRecDepth 100000

/-- the events that the words say -/
def i1 (k : Int) : Nat := if kA k = true then 3 else 2
def rN (W : List (List UInt8)) (k : Int) : Int := if kB k = true then pV (wAt W (i1 k)) else 0
def i2 (k : Int) : Nat := if kB k = true then i1 k + 1 else i1 k
def rU (W : List (List UInt8)) (k : Int) : Bool := uM (kC k) k (rN W k)
def rM (W : List (List UInt8)) (k : Int) : Int := if rU W k = true then pV (wAt W (i2 k)) else 0
def i3 (W : List (List UInt8)) (k : Int) : Nat := if rU W k = true then i2 k + 1 else i2 k
def rS (W : List (List UInt8)) (k : Int) : List (List UInt8) := if kD k = true then (if wAt W (i3 W k) = [59] then [] else cutB 59 (wAt W (i3 W k))) else []
def rE (W : List (List UInt8)) (k : Int) : Ev := ⟨pV (wAt W 0), k, if kA k = true then wAt W 2 else [], rN W k, rM W k, rS W k⟩
def rNil (W : List (List UInt8)) (k : Int) : Bool := !kD k || decide (wAt W (i3 W k) = [59])
def eO (q : Bool) (e : Ev) : PV := if q = true then eN e else eX false e
end Go.Proofs.YtidkdiooempkpaaDoor
/- event: read (written by mkEtS.py). -/
namespace Go.Proofs.YtidkdiooempkpaaDoor
open Go Go.RowKit Go.Lib
attribute [local simp] evCode evOps evOne evOp evPur evEff evPur.chunks fillP AOp.isEff AO.ev putP PV.cells PV.leaf getB getM mapE iterE keyC mapRows mfind eq1 eqL scal binP unP minP maxP foldP PV.lt PV.lt.ltL endP expoAll expoG expo expo.expoL frIds frIds.frIdsL nodupN kill cls clsFuel resO RV.get loadP evC_p evC_s endS endT rowsOf callP thinL unfr unfr.unfrL PV.noMem PV.noMem.noMemL optI mapO norm trimT trimB forget hasN blksLt List.set softChk softGo softRd effTg tgOf chgN sameB PV.same PV.same.sameL PV.same.sameLL rdP
set_option linter.unusedVariables false
set_option linter.unusedSimpArgs false
set_option maxHeartbeats 4000000
set_option maxRecDepth 100000

theorem f36_0 (x : Bool) (W : List (List UInt8)) (k : Int) (hW : W.length ≤ 1000000000) (hl : ∀ i, i < 3 → (wAt W i).length ≤ lim) (hk : kOf (wAt W 1) = k) (k1 : ¬ k < 1) (k2 : ¬ 12 < k)
    (hA : kA k = true) (hB : kB k = false) (hC : kC k = false) (hD : kD k = false) (hu : uM (kC k) k (0) = false) :
    evE Dg 36 [.sl x 1 (tR W)] = some (.tup [.agg [.int .i64 (pV (wAt W 0)), .int .i64 k, .str (wAt W 2), .int .i64 (0), .int .i64 (0), .nilS], .bool true]) := by
  have h0 := g50 x W 0 0 1 rfl rfl (by omega) hW (hl 0 (by omega))
  have h1 := g49 x W 1 1 2 rfl rfl (by omega) hW
  have hA2 := g49 x W 2 2 3 rfl rfl (by omega) hW
  have H := loop36 x W (pV (wAt W 0)) (wAt W 1)
  have hs := kSo13 (wAt W 1)
  rw [hk] at hs
  have h21 := f21 k k1 k2
  have h30 := f30N (kW k) (kA k) (kB k) (kC k) (kD k) (kLo k) (kHi k) ⟨pV (wAt W 0), k, wAt W 2, 0, 0, []⟩
  simp only [eN] at h30
  rw [hu] at h30
  rw [hA, hB, hC, hD] at h21 h30
  have k1' : (1 : Int) ≤ k := by omega
  have k2' : k ≤ 12 := by omega
  generalize kW k = kw at *
  generalize kLo k = klo at *
  generalize kHi k = khi at *
  refine evE_intro 14 D36 rfl ?_
  unfold c36
  simp (maxSteps := 100000000) [h0, h1, gtab_at, tabL_len, tabL_take, tabL_lt4, tabL_lt5, nb20, nb00]
  generalize hE' : evLoop _ _ _ _ _ = E
  have g := H _ _ hE' (by simp (maxSteps := 100000000) [S36, kSo, tabL_len, tabL_take, tabL_lt4, tabL_lt5, tabL_lt6])
  rw [g]
  unfold c36b0
  simp (maxSteps := 100000000) [S36, hs]
  unfold c36r0
  simp (maxSteps := 100000000) [h21, h30, h0, h1, hA2]
end Go.Proofs.YtidkdiooempkpaaDoor
/- event: read (written by mkEtS.py). -/
namespace Go.Proofs.YtidkdiooempkpaaDoor
open Go Go.RowKit Go.Lib
attribute [local simp] evCode evOps evOne evOp evPur evEff evPur.chunks fillP AOp.isEff AO.ev putP PV.cells PV.leaf getB getM mapE iterE keyC mapRows mfind eq1 eqL scal binP unP minP maxP foldP PV.lt PV.lt.ltL endP expoAll expoG expo expo.expoL frIds frIds.frIdsL nodupN kill cls clsFuel resO RV.get loadP evC_p evC_s endS endT rowsOf callP thinL unfr unfr.unfrL PV.noMem PV.noMem.noMemL optI mapO norm trimT trimB forget hasN blksLt List.set softChk softGo softRd effTg tgOf chgN sameB PV.same PV.same.sameL PV.same.sameLL rdP
set_option linter.unusedVariables false
set_option linter.unusedSimpArgs false
set_option maxHeartbeats 4000000
set_option maxRecDepth 100000

theorem f36_1 (x : Bool) (W : List (List UInt8)) (k : Int) (hW : W.length ≤ 1000000000) (hl : ∀ i, i < 2 → (wAt W i).length ≤ lim) (hk : kOf (wAt W 1) = k) (k1 : ¬ k < 1) (k2 : ¬ 12 < k)
    (hA : kA k = false) (hB : kB k = false) (hC : kC k = false) (hD : kD k = false) (hu : uM (kC k) k (0) = false) :
    evE Dg 36 [.sl x 1 (tR W)] = some (.tup [.agg [.int .i64 (pV (wAt W 0)), .int .i64 k, .str ([]), .int .i64 (0), .int .i64 (0), .nilS], .bool true]) := by
  have h0 := g50 x W 0 0 1 rfl rfl (by omega) hW (hl 0 (by omega))
  have h1 := g49 x W 1 1 2 rfl rfl (by omega) hW
  have H := loop36 x W (pV (wAt W 0)) (wAt W 1)
  have hs := kSo13 (wAt W 1)
  rw [hk] at hs
  have h21 := f21 k k1 k2
  have h30 := f30N (kW k) (kA k) (kB k) (kC k) (kD k) (kLo k) (kHi k) ⟨pV (wAt W 0), k, [], 0, 0, []⟩
  simp only [eN] at h30
  rw [hu] at h30
  rw [hA, hB, hC, hD] at h21 h30
  have k1' : (1 : Int) ≤ k := by omega
  have k2' : k ≤ 12 := by omega
  generalize kW k = kw at *
  generalize kLo k = klo at *
  generalize kHi k = khi at *
  refine evE_intro 14 D36 rfl ?_
  unfold c36
  simp (maxSteps := 100000000) [h0, h1, gtab_at, tabL_len, tabL_take, tabL_lt4, tabL_lt5, nb20, nb00]
  generalize hE' : evLoop _ _ _ _ _ = E
  have g := H _ _ hE' (by simp (maxSteps := 100000000) [S36, kSo, tabL_len, tabL_take, tabL_lt4, tabL_lt5, tabL_lt6])
  rw [g]
  unfold c36b0
  simp (maxSteps := 100000000) [S36, hs]
  unfold c36r0
  simp (maxSteps := 100000000) [h21, h30, h0, h1]
end Go.Proofs.YtidkdiooempkpaaDoor
/- event: read (written by mkEtS.py). -/
namespace Go.Proofs.YtidkdiooempkpaaDoor
open Go Go.RowKit Go.Lib
attribute [local simp] evCode evOps evOne evOp evPur evEff evPur.chunks fillP AOp.isEff AO.ev putP PV.cells PV.leaf getB getM mapE iterE keyC mapRows mfind eq1 eqL scal binP unP minP maxP foldP PV.lt PV.lt.ltL endP expoAll expoG expo expo.expoL frIds frIds.frIdsL nodupN kill cls clsFuel resO RV.get loadP evC_p evC_s endS endT rowsOf callP thinL unfr unfr.unfrL PV.noMem PV.noMem.noMemL optI mapO norm trimT trimB forget hasN blksLt List.set softChk softGo softRd effTg tgOf chgN sameB PV.same PV.same.sameL PV.same.sameLL rdP
set_option linter.unusedVariables false
set_option linter.unusedSimpArgs false
set_option maxHeartbeats 4000000
set_option maxRecDepth 100000

theorem f36_2 (x : Bool) (W : List (List UInt8)) (k : Int) (hW : W.length ≤ 1000000000) (hl : ∀ i, i < 4 → (wAt W i).length ≤ lim) (hk : kOf (wAt W 1) = k) (k1 : ¬ k < 1) (k2 : ¬ 12 < k)
    (hA : kA k = true) (hB : kB k = true) (hC : kC k = false) (hD : kD k = false) (hu : uM (kC k) k (pV (wAt W 3)) = false) :
    evE Dg 36 [.sl x 1 (tR W)] = some (.tup [.agg [.int .i64 (pV (wAt W 0)), .int .i64 k, .str (wAt W 2), .int .i64 (pV (wAt W 3)), .int .i64 (0), .nilS], .bool true]) := by
  have h0 := g50 x W 0 0 1 rfl rfl (by omega) hW (hl 0 (by omega))
  have h1 := g49 x W 1 1 2 rfl rfl (by omega) hW
  have hA2 := g49 x W 2 2 3 rfl rfl (by omega) hW
  have hB2 := g50 x W 3 3 4 rfl rfl (by omega) hW (hl 3 (by omega))
  have H := loop36 x W (pV (wAt W 0)) (wAt W 1)
  have hs := kSo13 (wAt W 1)
  rw [hk] at hs
  have h21 := f21 k k1 k2
  have h30 := f30N (kW k) (kA k) (kB k) (kC k) (kD k) (kLo k) (kHi k) ⟨pV (wAt W 0), k, wAt W 2, pV (wAt W 3), 0, []⟩
  simp only [eN] at h30
  rw [hu] at h30
  rw [hA, hB, hC, hD] at h21 h30
  have k1' : (1 : Int) ≤ k := by omega
  have k2' : k ≤ 12 := by omega
  generalize kW k = kw at *
  generalize kLo k = klo at *
  generalize kHi k = khi at *
  refine evE_intro 14 D36 rfl ?_
  unfold c36
  simp (maxSteps := 100000000) [h0, h1, gtab_at, tabL_len, tabL_take, tabL_lt4, tabL_lt5, nb20, nb00]
  generalize hE' : evLoop _ _ _ _ _ = E
  have g := H _ _ hE' (by simp (maxSteps := 100000000) [S36, kSo, tabL_len, tabL_take, tabL_lt4, tabL_lt5, tabL_lt6])
  rw [g]
  unfold c36b0
  simp (maxSteps := 100000000) [S36, hs]
  unfold c36r0
  simp (maxSteps := 100000000) [h21, h30, h0, h1, hA2, hB2]
end Go.Proofs.YtidkdiooempkpaaDoor
/- event: read (written by mkEtS.py). -/
namespace Go.Proofs.YtidkdiooempkpaaDoor
open Go Go.RowKit Go.Lib
attribute [local simp] evCode evOps evOne evOp evPur evEff evPur.chunks fillP AOp.isEff AO.ev putP PV.cells PV.leaf getB getM mapE iterE keyC mapRows mfind eq1 eqL scal binP unP minP maxP foldP PV.lt PV.lt.ltL endP expoAll expoG expo expo.expoL frIds frIds.frIdsL nodupN kill cls clsFuel resO RV.get loadP evC_p evC_s endS endT rowsOf callP thinL unfr unfr.unfrL PV.noMem PV.noMem.noMemL optI mapO norm trimT trimB forget hasN blksLt List.set softChk softGo softRd effTg tgOf chgN sameB PV.same PV.same.sameL PV.same.sameLL rdP
set_option linter.unusedVariables false
set_option linter.unusedSimpArgs false
set_option maxHeartbeats 4000000
set_option maxRecDepth 100000

theorem f36_3 (x : Bool) (W : List (List UInt8)) (k : Int) (hW : W.length ≤ 1000000000) (hl : ∀ i, i < 3 → (wAt W i).length ≤ lim) (hk : kOf (wAt W 1) = k) (k1 : ¬ k < 1) (k2 : ¬ 12 < k)
    (hA : kA k = false) (hB : kB k = true) (hC : kC k = false) (hD : kD k = true) (hu : uM (kC k) k (pV (wAt W 2)) = false) (hE : ¬ wAt W 3 = [59]) (hl3 : (wAt W 3).length ≤ 1000000) :
    evE Dg 36 [.sl x 1 (tR W)] = some (.tup [.agg [.int .i64 (pV (wAt W 0)), .int .i64 k, .str ([]), .int .i64 (pV (wAt W 2)), .int .i64 (0), .sl false 1 (tR (cutB 59 (wAt W 3)))], .bool true]) := by
  have h0 := g50 x W 0 0 1 rfl rfl (by omega) hW (hl 0 (by omega))
  have h1 := g49 x W 1 1 2 rfl rfl (by omega) hW
  have hB2 := g50 x W 2 2 3 rfl rfl (by omega) hW (hl 2 (by omega))
  have hD2 := g49 x W 3 3 4 rfl rfl (by omega) hW
  have h37 := f37 59 (wAt W 3) hl3
  have H := loop36 x W (pV (wAt W 0)) (wAt W 1)
  have hs := kSo13 (wAt W 1)
  rw [hk] at hs
  have h21 := f21 k k1 k2
  have h30 := f30N (kW k) (kA k) (kB k) (kC k) (kD k) (kLo k) (kHi k) ⟨pV (wAt W 0), k, [], pV (wAt W 2), 0, []⟩
  simp only [eN] at h30
  rw [hu] at h30
  rw [hA, hB, hC, hD] at h21 h30
  have k1' : (1 : Int) ≤ k := by omega
  have k2' : k ≤ 12 := by omega
  generalize kW k = kw at *
  generalize kLo k = klo at *
  generalize kHi k = khi at *
  refine evE_intro 14 D36 rfl ?_
  unfold c36
  simp (maxSteps := 100000000) [h0, h1, gtab_at, tabL_len, tabL_take, tabL_lt4, tabL_lt5, nb20, nb00]
  generalize hE' : evLoop _ _ _ _ _ = E
  have g := H _ _ hE' (by simp (maxSteps := 100000000) [S36, kSo, tabL_len, tabL_take, tabL_lt4, tabL_lt5, tabL_lt6])
  rw [g]
  unfold c36b0
  simp (maxSteps := 100000000) [S36, hs]
  unfold c36r0
  simp (maxSteps := 100000000) [h21, h30, h0, h1, hB2, hD2, hE, h37]
end Go.Proofs.YtidkdiooempkpaaDoor
/- event: read (written by mkEtS.py). -/
namespace Go.Proofs.YtidkdiooempkpaaDoor
open Go Go.RowKit Go.Lib
attribute [local simp] evCode evOps evOne evOp evPur evEff evPur.chunks fillP AOp.isEff AO.ev putP PV.cells PV.leaf getB getM mapE iterE keyC mapRows mfind eq1 eqL scal binP unP minP maxP foldP PV.lt PV.lt.ltL endP expoAll expoG expo expo.expoL frIds frIds.frIdsL nodupN kill cls clsFuel resO RV.get loadP evC_p evC_s endS endT rowsOf callP thinL unfr unfr.unfrL PV.noMem PV.noMem.noMemL optI mapO norm trimT trimB forget hasN blksLt List.set softChk softGo softRd effTg tgOf chgN sameB PV.same PV.same.sameL PV.same.sameLL rdP
set_option linter.unusedVariables false
set_option linter.unusedSimpArgs false
set_option maxHeartbeats 4000000
set_option maxRecDepth 100000

theorem f36_3e (x : Bool) (W : List (List UInt8)) (k : Int) (hW : W.length ≤ 1000000000) (hl : ∀ i, i < 3 → (wAt W i).length ≤ lim) (hk : kOf (wAt W 1) = k) (k1 : ¬ k < 1) (k2 : ¬ 12 < k)
    (hA : kA k = false) (hB : kB k = true) (hC : kC k = false) (hD : kD k = true) (hu : uM (kC k) k (pV (wAt W 2)) = false) (hE : wAt W 3 = [59]) :
    evE Dg 36 [.sl x 1 (tR W)] = some (.tup [.agg [.int .i64 (pV (wAt W 0)), .int .i64 k, .str ([]), .int .i64 (pV (wAt W 2)), .int .i64 (0), .nilS], .bool true]) := by
  have h0 := g50 x W 0 0 1 rfl rfl (by omega) hW (hl 0 (by omega))
  have h1 := g49 x W 1 1 2 rfl rfl (by omega) hW
  have hB2 := g50 x W 2 2 3 rfl rfl (by omega) hW (hl 2 (by omega))
  have hD2 := g49 x W 3 3 4 rfl rfl (by omega) hW
  have H := loop36 x W (pV (wAt W 0)) (wAt W 1)
  have hs := kSo13 (wAt W 1)
  rw [hk] at hs
  have h21 := f21 k k1 k2
  have h30 := f30N (kW k) (kA k) (kB k) (kC k) (kD k) (kLo k) (kHi k) ⟨pV (wAt W 0), k, [], pV (wAt W 2), 0, []⟩
  simp only [eN] at h30
  rw [hu] at h30
  rw [hA, hB, hC, hD] at h21 h30
  have k1' : (1 : Int) ≤ k := by omega
  have k2' : k ≤ 12 := by omega
  generalize kW k = kw at *
  generalize kLo k = klo at *
  generalize kHi k = khi at *
  refine evE_intro 14 D36 rfl ?_
  unfold c36
  simp (maxSteps := 100000000) [h0, h1, gtab_at, tabL_len, tabL_take, tabL_lt4, tabL_lt5, nb20, nb00]
  generalize hE' : evLoop _ _ _ _ _ = E
  have g := H _ _ hE' (by simp (maxSteps := 100000000) [S36, kSo, tabL_len, tabL_take, tabL_lt4, tabL_lt5, tabL_lt6])
  rw [g]
  unfold c36b0
  simp (maxSteps := 100000000) [S36, hs]
  unfold c36r0
  simp (maxSteps := 100000000) [h21, h30, h0, h1, hB2, hD2, eq_true hE]
end Go.Proofs.YtidkdiooempkpaaDoor
/- event: read (written by mkEtS.py). -/
namespace Go.Proofs.YtidkdiooempkpaaDoor
open Go Go.RowKit Go.Lib
attribute [local simp] evCode evOps evOne evOp evPur evEff evPur.chunks fillP AOp.isEff AO.ev putP PV.cells PV.leaf getB getM mapE iterE keyC mapRows mfind eq1 eqL scal binP unP minP maxP foldP PV.lt PV.lt.ltL endP expoAll expoG expo expo.expoL frIds frIds.frIdsL nodupN kill cls clsFuel resO RV.get loadP evC_p evC_s endS endT rowsOf callP thinL unfr unfr.unfrL PV.noMem PV.noMem.noMemL optI mapO norm trimT trimB forget hasN blksLt List.set softChk softGo softRd effTg tgOf chgN sameB PV.same PV.same.sameL PV.same.sameLL rdP
set_option linter.unusedVariables false
set_option linter.unusedSimpArgs false
set_option maxHeartbeats 4000000
set_option maxRecDepth 100000

theorem f36_4 (x : Bool) (W : List (List UInt8)) (k : Int) (hW : W.length ≤ 1000000000) (hl : ∀ i, i < 3 → (wAt W i).length ≤ lim) (hk : kOf (wAt W 1) = k) (k1 : ¬ k < 1) (k2 : ¬ 12 < k)
    (hA : kA k = false) (hB : kB k = true) (hC : kC k = false) (hD : kD k = false) (hu : uM (kC k) k (pV (wAt W 2)) = false) :
    evE Dg 36 [.sl x 1 (tR W)] = some (.tup [.agg [.int .i64 (pV (wAt W 0)), .int .i64 k, .str ([]), .int .i64 (pV (wAt W 2)), .int .i64 (0), .nilS], .bool true]) := by
  have h0 := g50 x W 0 0 1 rfl rfl (by omega) hW (hl 0 (by omega))
  have h1 := g49 x W 1 1 2 rfl rfl (by omega) hW
  have hB2 := g50 x W 2 2 3 rfl rfl (by omega) hW (hl 2 (by omega))
  have H := loop36 x W (pV (wAt W 0)) (wAt W 1)
  have hs := kSo13 (wAt W 1)
  rw [hk] at hs
  have h21 := f21 k k1 k2
  have h30 := f30N (kW k) (kA k) (kB k) (kC k) (kD k) (kLo k) (kHi k) ⟨pV (wAt W 0), k, [], pV (wAt W 2), 0, []⟩
  simp only [eN] at h30
  rw [hu] at h30
  rw [hA, hB, hC, hD] at h21 h30
  have k1' : (1 : Int) ≤ k := by omega
  have k2' : k ≤ 12 := by omega
  generalize kW k = kw at *
  generalize kLo k = klo at *
  generalize kHi k = khi at *
  refine evE_intro 14 D36 rfl ?_
  unfold c36
  simp (maxSteps := 100000000) [h0, h1, gtab_at, tabL_len, tabL_take, tabL_lt4, tabL_lt5, nb20, nb00]
  generalize hE' : evLoop _ _ _ _ _ = E
  have g := H _ _ hE' (by simp (maxSteps := 100000000) [S36, kSo, tabL_len, tabL_take, tabL_lt4, tabL_lt5, tabL_lt6])
  rw [g]
  unfold c36b0
  simp (maxSteps := 100000000) [S36, hs]
  unfold c36r0
  simp (maxSteps := 100000000) [h21, h30, h0, h1, hB2]
end Go.Proofs.YtidkdiooempkpaaDoor
/- event: read (written by mkEtS.py). -/
namespace Go.Proofs.YtidkdiooempkpaaDoor
open Go Go.RowKit Go.Lib
attribute [local simp] evCode evOps evOne evOp evPur evEff evPur.chunks fillP AOp.isEff AO.ev putP PV.cells PV.leaf getB getM mapE iterE keyC mapRows mfind eq1 eqL scal binP unP minP maxP foldP PV.lt PV.lt.ltL endP expoAll expoG expo expo.expoL frIds frIds.frIdsL nodupN kill cls clsFuel resO RV.get loadP evC_p evC_s endS endT rowsOf callP thinL unfr unfr.unfrL PV.noMem PV.noMem.noMemL optI mapO norm trimT trimB forget hasN blksLt List.set softChk softGo softRd effTg tgOf chgN sameB PV.same PV.same.sameL PV.same.sameLL rdP
set_option linter.unusedVariables false
set_option linter.unusedSimpArgs false
set_option maxHeartbeats 4000000
set_option maxRecDepth 100000

theorem f36_5 (x : Bool) (W : List (List UInt8)) (k : Int) (hW : W.length ≤ 1000000000) (hl : ∀ i, i < 3 → (wAt W i).length ≤ lim) (hk : kOf (wAt W 1) = k) (k1 : ¬ k < 1) (k2 : ¬ 12 < k)
    (hA : kA k = false) (hB : kB k = true) (hC : kC k = true) (hD : kD k = false) (hu : uM (kC k) k (pV (wAt W 2)) = false) :
    evE Dg 36 [.sl x 1 (tR W)] = some (.tup [.agg [.int .i64 (pV (wAt W 0)), .int .i64 k, .str ([]), .int .i64 (pV (wAt W 2)), .int .i64 (0), .nilS], .bool true]) := by
  have h0 := g50 x W 0 0 1 rfl rfl (by omega) hW (hl 0 (by omega))
  have h1 := g49 x W 1 1 2 rfl rfl (by omega) hW
  have hB2 := g50 x W 2 2 3 rfl rfl (by omega) hW (hl 2 (by omega))
  have H := loop36 x W (pV (wAt W 0)) (wAt W 1)
  have hs := kSo13 (wAt W 1)
  rw [hk] at hs
  have h21 := f21 k k1 k2
  have h30 := f30N (kW k) (kA k) (kB k) (kC k) (kD k) (kLo k) (kHi k) ⟨pV (wAt W 0), k, [], pV (wAt W 2), 0, []⟩
  simp only [eN] at h30
  rw [hu] at h30
  rw [hA, hB, hC, hD] at h21 h30
  have k1' : (1 : Int) ≤ k := by omega
  have k2' : k ≤ 12 := by omega
  generalize kW k = kw at *
  generalize kLo k = klo at *
  generalize kHi k = khi at *
  refine evE_intro 14 D36 rfl ?_
  unfold c36
  simp (maxSteps := 100000000) [h0, h1, gtab_at, tabL_len, tabL_take, tabL_lt4, tabL_lt5, nb20, nb00]
  generalize hE' : evLoop _ _ _ _ _ = E
  have g := H _ _ hE' (by simp (maxSteps := 100000000) [S36, kSo, tabL_len, tabL_take, tabL_lt4, tabL_lt5, tabL_lt6])
  rw [g]
  unfold c36b0
  simp (maxSteps := 100000000) [S36, hs]
  unfold c36r0
  simp (maxSteps := 100000000) [h21, h30, h0, h1, hB2]
end Go.Proofs.YtidkdiooempkpaaDoor
/- event: read (written by mkEtS.py). -/
namespace Go.Proofs.YtidkdiooempkpaaDoor
open Go Go.RowKit Go.Lib
attribute [local simp] evCode evOps evOne evOp evPur evEff evPur.chunks fillP AOp.isEff AO.ev putP PV.cells PV.leaf getB getM mapE iterE keyC mapRows mfind eq1 eqL scal binP unP minP maxP foldP PV.lt PV.lt.ltL endP expoAll expoG expo expo.expoL frIds frIds.frIdsL nodupN kill cls clsFuel resO RV.get loadP evC_p evC_s endS endT rowsOf callP thinL unfr unfr.unfrL PV.noMem PV.noMem.noMemL optI mapO norm trimT trimB forget hasN blksLt List.set softChk softGo softRd effTg tgOf chgN sameB PV.same PV.same.sameL PV.same.sameLL rdP
set_option linter.unusedVariables false
set_option linter.unusedSimpArgs false
set_option maxHeartbeats 4000000
set_option maxRecDepth 100000

theorem f36_6 (x : Bool) (W : List (List UInt8)) (k : Int) (hW : W.length ≤ 1000000000) (hl : ∀ i, i < 4 → (wAt W i).length ≤ lim) (hk : kOf (wAt W 1) = k) (k1 : ¬ k < 1) (k2 : ¬ 12 < k)
    (hA : kA k = false) (hB : kB k = true) (hC : kC k = true) (hD : kD k = false) (hu : uM (kC k) k (pV (wAt W 2)) = true) :
    evE Dg 36 [.sl x 1 (tR W)] = some (.tup [.agg [.int .i64 (pV (wAt W 0)), .int .i64 k, .str ([]), .int .i64 (pV (wAt W 2)), .int .i64 (pV (wAt W 3)), .nilS], .bool true]) := by
  have h0 := g50 x W 0 0 1 rfl rfl (by omega) hW (hl 0 (by omega))
  have h1 := g49 x W 1 1 2 rfl rfl (by omega) hW
  have hB2 := g50 x W 2 2 3 rfl rfl (by omega) hW (hl 2 (by omega))
  have hU2 := g50 x W 3 3 4 rfl rfl (by omega) hW (hl 3 (by omega))
  have H := loop36 x W (pV (wAt W 0)) (wAt W 1)
  have hs := kSo13 (wAt W 1)
  rw [hk] at hs
  have h21 := f21 k k1 k2
  have h30 := f30N (kW k) (kA k) (kB k) (kC k) (kD k) (kLo k) (kHi k) ⟨pV (wAt W 0), k, [], pV (wAt W 2), 0, []⟩
  simp only [eN] at h30
  rw [hu] at h30
  rw [hA, hB, hC, hD] at h21 h30
  have k1' : (1 : Int) ≤ k := by omega
  have k2' : k ≤ 12 := by omega
  generalize kW k = kw at *
  generalize kLo k = klo at *
  generalize kHi k = khi at *
  refine evE_intro 14 D36 rfl ?_
  unfold c36
  simp (maxSteps := 100000000) [h0, h1, gtab_at, tabL_len, tabL_take, tabL_lt4, tabL_lt5, nb20, nb00]
  generalize hE' : evLoop _ _ _ _ _ = E
  have g := H _ _ hE' (by simp (maxSteps := 100000000) [S36, kSo, tabL_len, tabL_take, tabL_lt4, tabL_lt5, tabL_lt6])
  rw [g]
  unfold c36b0
  simp (maxSteps := 100000000) [S36, hs]
  unfold c36r0
  simp (maxSteps := 100000000) [h21, h30, h0, h1, hB2, hU2]
end Go.Proofs.YtidkdiooempkpaaDoor
/- event: read (written by mkEtS.py). -/
namespace Go.Proofs.YtidkdiooempkpaaDoor
open Go Go.RowKit Go.Lib
attribute [local simp] evCode evOps evOne evOp evPur evEff evPur.chunks fillP AOp.isEff AO.ev putP PV.cells PV.leaf getB getM mapE iterE keyC mapRows mfind eq1 eqL scal binP unP minP maxP foldP PV.lt PV.lt.ltL endP expoAll expoG expo expo.expoL frIds frIds.frIdsL nodupN kill cls clsFuel resO RV.get loadP evC_p evC_s endS endT rowsOf callP thinL unfr unfr.unfrL PV.noMem PV.noMem.noMemL optI mapO norm trimT trimB forget hasN blksLt List.set softChk softGo softRd effTg tgOf chgN sameB PV.same PV.same.sameL PV.same.sameLL rdP
set_option linter.unusedVariables false
set_option linter.unusedSimpArgs false
set_option maxHeartbeats 4000000
set_option maxRecDepth 100000

theorem f36_7 (x : Bool) (W : List (List UInt8)) (k : Int) (hW : W.length ≤ 1000000000) (hl : ∀ i, i < 4 → (wAt W i).length ≤ lim) (hk : kOf (wAt W 1) = k) (k1 : ¬ k < 1) (k2 : ¬ 12 < k)
    (hA : kA k = false) (hB : kB k = true) (hC : kC k = true) (hD : kD k = true) (hu : uM (kC k) k (pV (wAt W 2)) = true) (hE : ¬ wAt W 4 = [59]) (hl3 : (wAt W 4).length ≤ 1000000) :
    evE Dg 36 [.sl x 1 (tR W)] = some (.tup [.agg [.int .i64 (pV (wAt W 0)), .int .i64 k, .str ([]), .int .i64 (pV (wAt W 2)), .int .i64 (pV (wAt W 3)), .sl false 1 (tR (cutB 59 (wAt W 4)))], .bool true]) := by
  have h0 := g50 x W 0 0 1 rfl rfl (by omega) hW (hl 0 (by omega))
  have h1 := g49 x W 1 1 2 rfl rfl (by omega) hW
  have hB2 := g50 x W 2 2 3 rfl rfl (by omega) hW (hl 2 (by omega))
  have hU2 := g50 x W 3 3 4 rfl rfl (by omega) hW (hl 3 (by omega))
  have hD2 := g49 x W 4 4 5 rfl rfl (by omega) hW
  have h37 := f37 59 (wAt W 4) hl3
  have H := loop36 x W (pV (wAt W 0)) (wAt W 1)
  have hs := kSo13 (wAt W 1)
  rw [hk] at hs
  have h21 := f21 k k1 k2
  have h30 := f30N (kW k) (kA k) (kB k) (kC k) (kD k) (kLo k) (kHi k) ⟨pV (wAt W 0), k, [], pV (wAt W 2), 0, []⟩
  simp only [eN] at h30
  rw [hu] at h30
  rw [hA, hB, hC, hD] at h21 h30
  have k1' : (1 : Int) ≤ k := by omega
  have k2' : k ≤ 12 := by omega
  generalize kW k = kw at *
  generalize kLo k = klo at *
  generalize kHi k = khi at *
  refine evE_intro 14 D36 rfl ?_
  unfold c36
  simp (maxSteps := 100000000) [h0, h1, gtab_at, tabL_len, tabL_take, tabL_lt4, tabL_lt5, nb20, nb00]
  generalize hE' : evLoop _ _ _ _ _ = E
  have g := H _ _ hE' (by simp (maxSteps := 100000000) [S36, kSo, tabL_len, tabL_take, tabL_lt4, tabL_lt5, tabL_lt6])
  rw [g]
  unfold c36b0
  simp (maxSteps := 100000000) [S36, hs]
  unfold c36r0
  simp (maxSteps := 100000000) [h21, h30, h0, h1, hB2, hU2, hD2, hE, h37]
end Go.Proofs.YtidkdiooempkpaaDoor
/- event: read (written by mkEtS.py). -/
namespace Go.Proofs.YtidkdiooempkpaaDoor
open Go Go.RowKit Go.Lib
attribute [local simp] evCode evOps evOne evOp evPur evEff evPur.chunks fillP AOp.isEff AO.ev putP PV.cells PV.leaf getB getM mapE iterE keyC mapRows mfind eq1 eqL scal binP unP minP maxP foldP PV.lt PV.lt.ltL endP expoAll expoG expo expo.expoL frIds frIds.frIdsL nodupN kill cls clsFuel resO RV.get loadP evC_p evC_s endS endT rowsOf callP thinL unfr unfr.unfrL PV.noMem PV.noMem.noMemL optI mapO norm trimT trimB forget hasN blksLt List.set softChk softGo softRd effTg tgOf chgN sameB PV.same PV.same.sameL PV.same.sameLL rdP
set_option linter.unusedVariables false
set_option linter.unusedSimpArgs false
set_option maxHeartbeats 4000000
set_option maxRecDepth 100000

theorem f36_7e (x : Bool) (W : List (List UInt8)) (k : Int) (hW : W.length ≤ 1000000000) (hl : ∀ i, i < 4 → (wAt W i).length ≤ lim) (hk : kOf (wAt W 1) = k) (k1 : ¬ k < 1) (k2 : ¬ 12 < k)
    (hA : kA k = false) (hB : kB k = true) (hC : kC k = true) (hD : kD k = true) (hu : uM (kC k) k (pV (wAt W 2)) = true) (hE : wAt W 4 = [59]) :
    evE Dg 36 [.sl x 1 (tR W)] = some (.tup [.agg [.int .i64 (pV (wAt W 0)), .int .i64 k, .str ([]), .int .i64 (pV (wAt W 2)), .int .i64 (pV (wAt W 3)), .nilS], .bool true]) := by
  have h0 := g50 x W 0 0 1 rfl rfl (by omega) hW (hl 0 (by omega))
  have h1 := g49 x W 1 1 2 rfl rfl (by omega) hW
  have hB2 := g50 x W 2 2 3 rfl rfl (by omega) hW (hl 2 (by omega))
  have hU2 := g50 x W 3 3 4 rfl rfl (by omega) hW (hl 3 (by omega))
  have hD2 := g49 x W 4 4 5 rfl rfl (by omega) hW
  have H := loop36 x W (pV (wAt W 0)) (wAt W 1)
  have hs := kSo13 (wAt W 1)
  rw [hk] at hs
  have h21 := f21 k k1 k2
  have h30 := f30N (kW k) (kA k) (kB k) (kC k) (kD k) (kLo k) (kHi k) ⟨pV (wAt W 0), k, [], pV (wAt W 2), 0, []⟩
  simp only [eN] at h30
  rw [hu] at h30
  rw [hA, hB, hC, hD] at h21 h30
  have k1' : (1 : Int) ≤ k := by omega
  have k2' : k ≤ 12 := by omega
  generalize kW k = kw at *
  generalize kLo k = klo at *
  generalize kHi k = khi at *
  refine evE_intro 14 D36 rfl ?_
  unfold c36
  simp (maxSteps := 100000000) [h0, h1, gtab_at, tabL_len, tabL_take, tabL_lt4, tabL_lt5, nb20, nb00]
  generalize hE' : evLoop _ _ _ _ _ = E
  have g := H _ _ hE' (by simp (maxSteps := 100000000) [S36, kSo, tabL_len, tabL_take, tabL_lt4, tabL_lt5, tabL_lt6])
  rw [g]
  unfold c36b0
  simp (maxSteps := 100000000) [S36, hs]
  unfold c36r0
  simp (maxSteps := 100000000) [h21, h30, h0, h1, hB2, hU2, hD2, eq_true hE]
end Go.Proofs.YtidkdiooempkpaaDoor
