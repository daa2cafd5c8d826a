/- column: Text of codec, the reader. -/
import Derived.Test.YtimipbbcmiblkaaCoR
import Derived.Test.YtimipbbcmiblkaaCoE
namespace Go.Proofs.Ytimipbbcmiblkaa
open Go Go.RowKit
set_option linter.unusedVariables false
set_option linter.unusedSimpArgs false
set_option maxHeartbeats 4000000

theorem decGo_size : ∀ (f i u : Nat) (l : List Nat), (decGo f i u l).2.1 ≤ i + l.length
  | 0, i, u, l => Nat.zero_le _
  | f + 1, i, u, [] => Nat.zero_le _
  | f + 1, i, u, c :: l => by
    unfold decGo
    split
    · exact Nat.zero_le _
    · split
      · have := decGo_size f (i + 1) (u + c % 128 * 128 ^ i) l
        simp only [List.length_cons]
        omega
      · split
        · exact Nat.zero_le _
        · simp only [List.length_cons]
          omega
theorem dec_size (l : List Nat) : (dec l).2.1 ≤ l.length := by
  have := decGo_size 10 0 0 l
  unfold dec
  omega
theorem bytes_bR : ∀ (L : List Nat), bytesOfRows (bR L) = some (L.map fun z => UInt8.ofNat z)
  | [] => rfl
  | z :: L => by
    have := bytes_bR L
    simp only [bR, List.map_cons, bytesOfRows] at this ⊢
    rw [this]
    rfl
theorem okB.drop {L : List Nat} (h : okB L) (n : Nat) : okB (L.drop n) := fun z hz => h z (List.mem_of_mem_drop hz)
def decT (most : Int) (L : List Nat) : List UInt8 × Nat × Int :=
  if (dec L).2.2 ≠ 0 then ([], 0, (dec L).2.2)
  else if (dec L).1 < 0 then ([], 0, 10)
  else if most < (dec L).1 then ([], 0, 7)
  else if (L.length : Int) - (dec L).2.1 < (dec L).1 then ([], 0, 8)
  else (((L.drop (dec L).2.1).take (dec L).1.toNat).map (fun z => UInt8.ofNat z), (dec L).2.1 + (dec L).1.toNat, 0)
theorem decT_size (most : Int) (L : List Nat) : (decT most L).2.1 ≤ L.length := by
  have := dec_size L
  unfold decT
  split
  · exact Nat.zero_le _
  · split
    · exact Nat.zero_le _
    · split
      · exact Nat.zero_le _
      · split
        · exact Nat.zero_le _
        · simp only
          omega
def trT (r : List UInt8 × Nat × Int) : PV := .tup [.str r.1, .int .i64 (r.2.1 : Int), .int .i64 r.2.2]
set_option maxRecDepth 100000 in
theorem f55 (x : Bool) (L : List Nat) (most : Int) (hm : most ≤ 100000) (hl : L.length ≤ 1000000) (ok : okB L) : evE Dg 55 [eB x L, .int .i64 most] = some (trT (decT most L)) := by
  have h57 := f57 x L hl ok
  have hs := dec_size L
  have e1 := bR_len L
  unfold decT
  generalize dec L = r at *
  obtain ⟨n, s, e⟩ := r
  simp only at hs
  simp only [tr3, eB] at h57
  have w1 : IntKind.i64.wrap ((L.length : Int) - s) = (L.length : Int) - s := wrap_i64 _ (by omega) (by omega)
  refine evE_intro 1 D55 rfl ?_
  unfold c55
  by_cases c1 : e = 0
  · subst c1
    by_cases c2 : n < 0
    · simp [evCode, evOps, evOne, evOp, evPur, evEff, evPur.chunks, fillP, AOp.isEff, AO.ev, putP, PV.cells, PV.leaf, getB, getM, mapE, iterE, keyC, mapRows, mfind, eq1, eqL, scal, binP, unP, minP, maxP, foldP, PV.lt, PV.lt.ltL, endP, expoAll, expoG, expo, expo.expoL, frIds, frIds.frIdsL, nodupN, kill, cls, clsFuel, resO, RV.get, loadP, evC_p, evC_s, endS, endT, rowsOf, callP, thinL, unfr, unfr.unfrL, PV.noMem, PV.noMem.noMemL, optI, mapO, norm, trimT, trimB, forget, hasN, blksLt, List.set, softChk, softGo, softRd, effTg, rdP, eB, h57, c2, trT]
    · by_cases c3 : most < n
      · simp [evCode, evOps, evOne, evOp, evPur, evEff, evPur.chunks, fillP, AOp.isEff, AO.ev, putP, PV.cells, PV.leaf, getB, getM, mapE, iterE, keyC, mapRows, mfind, eq1, eqL, scal, binP, unP, minP, maxP, foldP, PV.lt, PV.lt.ltL, endP, expoAll, expoG, expo, expo.expoL, frIds, frIds.frIdsL, nodupN, kill, cls, clsFuel, resO, RV.get, loadP, evC_p, evC_s, endS, endT, rowsOf, callP, thinL, unfr, unfr.unfrL, PV.noMem, PV.noMem.noMemL, optI, mapO, norm, trimT, trimB, forget, hasN, blksLt, List.set, softChk, softGo, softRd, effTg, rdP, eB, h57, c2, c3, trT]
      · by_cases c4 : (L.length : Int) - s < n
        · simp [evCode, evOps, evOne, evOp, evPur, evEff, evPur.chunks, fillP, AOp.isEff, AO.ev, putP, PV.cells, PV.leaf, getB, getM, mapE, iterE, keyC, mapRows, mfind, eq1, eqL, scal, binP, unP, minP, maxP, foldP, PV.lt, PV.lt.ltL, endP, expoAll, expoG, expo, expo.expoL, frIds, frIds.frIdsL, nodupN, kill, cls, clsFuel, resO, RV.get, loadP, evC_p, evC_s, endS, endT, rowsOf, callP, thinL, unfr, unfr.unfrL, PV.noMem, PV.noMem.noMemL, optI, mapO, norm, trimT, trimB, forget, hasN, blksLt, List.set, softChk, softGo, softRd, effTg, rdP, eB, h57, e1, c2, c3, w1, c4, trT]
        · obtain ⟨m, rfl⟩ : ∃ m : Nat, n = m := ⟨n.toNat, by omega⟩
          have w2 : IntKind.i64.wrap ((s : Int) + m) = (s : Int) + m := wrap_i64 _ (by omega) (by omega)
          have c5 : (s : Int) ≤ (s : Int) + m := by omega
          have c6 : (s : Int) + m ≤ L.length := by omega
          have c7 : ((s : Int) + m).toNat = s + m := by omega
          have c8 : (0 : Int) ≤ s := by omega
          have tk : List.drop s (List.take (s + m) (bR L)) = bR ((L.drop s).take m) := by
            rw [bR_take, bR_drop, List.drop_take, Nat.add_sub_cancel_left]
          have hb := bytes_bR ((L.drop s).take m)
          simp [evCode, evOps, evOne, evOp, evPur, evEff, evPur.chunks, fillP, AOp.isEff, AO.ev, putP, PV.cells, PV.leaf, getB, getM, mapE, iterE, keyC, mapRows, mfind, eq1, eqL, scal, binP, unP, minP, maxP, foldP, PV.lt, PV.lt.ltL, endP, expoAll, expoG, expo, expo.expoL, frIds, frIds.frIdsL, nodupN, kill, cls, clsFuel, resO, RV.get, loadP, evC_p, evC_s, endS, endT, rowsOf, callP, thinL, unfr, unfr.unfrL, PV.noMem, PV.noMem.noMemL, optI, mapO, norm, trimT, trimB, forget, hasN, blksLt, List.set, softChk, softGo, softRd, effTg, rdP, eB, h57, e1, c2, c3, w1, c4, w2, c5, c6, c7, c8, tk, hb, trT]
  · simp [evCode, evOps, evOne, evOp, evPur, evEff, evPur.chunks, fillP, AOp.isEff, AO.ev, putP, PV.cells, PV.leaf, getB, getM, mapE, iterE, keyC, mapRows, mfind, eq1, eqL, scal, binP, unP, minP, maxP, foldP, PV.lt, PV.lt.ltL, endP, expoAll, expoG, expo, expo.expoL, frIds, frIds.frIdsL, nodupN, kill, cls, clsFuel, resO, RV.get, loadP, evC_p, evC_s, endS, endT, rowsOf, callP, thinL, unfr, unfr.unfrL, PV.noMem, PV.noMem.noMemL, optI, mapO, norm, trimT, trimB, forget, hasN, blksLt, List.set, softChk, softGo, softRd, effTg, rdP, eB, h57, c1, trT]
/-- the caller's blocks, one of them the reader -/
structure Rd (e N : Nat) (G : List Nat → Bool → Blks) : Prop where
  len : ∀ L f, (G L f).length = N
  get : ∀ L f, (G L f)[e]? = some (some ⟨1, 2, true, [[.sl false 1 (bR L), .bool f]]⟩)
  set : ∀ L f L' f', (G L f).set e (some ⟨1, 2, true, [[.sl false 1 (bR L'), .bool f']]⟩) = G L' f'
  lt : ∀ L f, blksLt N (G L f) = true
  he : e < N
set_option maxRecDepth 100000 in
theorem f56 (e N : Nat) (G : List Nat → Bool → Blks) (hG : Rd e N G) (L : List Nat) (f : Bool) (n : Nat) (err : Int) (hn : n ≤ L.length) :
    evS Dg 56 [.ptr e 1 0 0, .int .i64 (n : Int), .int .i64 err] (G L f) = some (.tup [], G (L.drop n) (f || decide (err ≠ 0))) := by
  have gl := hG.len
  have g1 := hG.get
  have g2 := fun L f => got_of (hG.get L f)
  have gs := hG.set
  have gb := hG.lt
  have he := hG.he
  have tk : ∀ L f, (G L f).take N = G L f := fun L f => List.take_of_length_le (by rw [gl]; exact Nat.le_refl _)
  have hb0 : ∀ b, Nat.blt b 0 = false := fun b => by cases b <;> rfl
  have e1 := bR_len L
  have dp := bR_drop L n
  have c1 : (n : Int) ≤ L.length := by omega
  have tL : List.take L.length (bR L) = bR L := List.take_of_length_le (by rw [e1]; exact Nat.le_refl _)
  refine evS_intro 1 D56 rfl ?_
  unfold c56
  cases f with
  | true => simp [evCode, evOps, evOne, evOp, evPur, evEff, evPur.chunks, fillP, AOp.isEff, AO.ev, putP, PV.cells, PV.leaf, getB, getM, mapE, iterE, keyC, mapRows, mfind, eq1, eqL, scal, binP, unP, minP, maxP, foldP, PV.lt, PV.lt.ltL, endP, expoAll, expoG, expo, expo.expoL, frIds, frIds.frIdsL, nodupN, kill, cls, clsFuel, resO, RV.get, loadP, evC_p, evC_s, endS, endT, rowsOf, callP, thinL, unfr, unfr.unfrL, PV.noMem, PV.noMem.noMemL, optI, mapO, norm, trimT, trimB, forget, hasN, blksLt, List.set, softChk, softGo, softRd, effTg, rdP, gl, g1, g2, gs, gb, he, tk, hb0, e1, dp, c1, tL]
  | false =>
    by_cases c : err = 0
    · subst c
      simp [evCode, evOps, evOne, evOp, evPur, evEff, evPur.chunks, fillP, AOp.isEff, AO.ev, putP, PV.cells, PV.leaf, getB, getM, mapE, iterE, keyC, mapRows, mfind, eq1, eqL, scal, binP, unP, minP, maxP, foldP, PV.lt, PV.lt.ltL, endP, expoAll, expoG, expo, expo.expoL, frIds, frIds.frIdsL, nodupN, kill, cls, clsFuel, resO, RV.get, loadP, evC_p, evC_s, endS, endT, rowsOf, callP, thinL, unfr, unfr.unfrL, PV.noMem, PV.noMem.noMemL, optI, mapO, norm, trimT, trimB, forget, hasN, blksLt, List.set, softChk, softGo, softRd, effTg, rdP, gl, g1, g2, gs, gb, he, tk, hb0, e1, dp, c1, tL]
    · have hd : (err != 0) = true := by simp [c]
      simp [evCode, evOps, evOne, evOp, evPur, evEff, evPur.chunks, fillP, AOp.isEff, AO.ev, putP, PV.cells, PV.leaf, getB, getM, mapE, iterE, keyC, mapRows, mfind, eq1, eqL, scal, binP, unP, minP, maxP, foldP, PV.lt, PV.lt.ltL, endP, expoAll, expoG, expo, expo.expoL, frIds, frIds.frIdsL, nodupN, kill, cls, clsFuel, resO, RV.get, loadP, evC_p, evC_s, endS, endT, rowsOf, callP, thinL, unfr, unfr.unfrL, PV.noMem, PV.noMem.noMemL, optI, mapO, norm, trimT, trimB, forget, hasN, blksLt, List.set, softChk, softGo, softRd, effTg, rdP, gl, g1, g2, gs, gb, he, tk, hb0, e1, dp, c1, tL, c, hd]
end Go.Proofs.Ytimipbbcmiblkaa
