/- Linked. -/
import Derived.Test.YtkdalahepedghaaCkM
namespace Go.Proofs.Ytkdalahepedghaa
open Go Go.RowKit
set_option maxHeartbeats 4000000
set_option linter.unusedVariables false
set_option linter.unusedSimpArgs false

def mrow (z : Int) : List PV := [.int .i64 z, .bool true]
theorem mf_no {M : List Int} {z : Int} (h : ¬ z ∈ M) : ∀ i, mfind [.i] false [.int .i64 z] (M.map mrow) i = some none := by
  induction M with
  | nil => intro i; rfl
  | cons a M ih =>
    intro i
    simp at h
    have : (z == a) = false := by simpa using h.1
    simp [mrow, mfind, keyC, eqL, eq1, this]
    exact ih h.2 (i + 1)
theorem mf_yes {M : List Int} {z : Int} (h : z ∈ M) : ∀ i, ∃ j, mfind [.i] false [.int .i64 z] (M.map mrow) i = some (some (i + j, .bool true)) ∧ (M.map mrow).set j [.int .i64 z, .bool true] = M.map mrow := by
  induction M with
  | nil => simp at h
  | cons a M ih =>
    intro i
    by_cases e : z = a
    · subst e
      exact ⟨0, by simp [mrow, mfind, keyC, eqL, eq1], by simp [mrow]⟩
    · have : (z == a) = false := by simpa using e
      simp [e] at h
      obtain ⟨j, hj, hs⟩ := ih h (i + 1)
      refine ⟨j + 1, ?_, ?_⟩
      · have hq : eqL [KK.i] [PV.int .i64 z] [PV.int .i64 a] = some false := by simp [eqL, eq1, this]
        rw [show i + (j + 1) = i + 1 + j by omega]
        simp only [List.map, mrow, mfind, keyC, hq, Bool.false_eq_true, if_false]
        exact hj
      · simp only [List.map, List.set_cons_succ, hs]
theorem mf_yes0 {M : List Int} {z : Int} (h : z ∈ M) : ∃ j, mfind [.i] false [.int .i64 z] (M.map mrow) 0 = some (some (j, .bool true)) ∧ (M.map mrow).set j [.int .i64 z, .bool true] = M.map mrow := by
  obtain ⟨j, h1, h2⟩ := mf_yes h 0
  rw [Nat.zero_add] at h1
  exact ⟨j, h1, h2⟩

def S16i (y : Bool) (l : List Sn) (z : Int) (n k : Nat) (m : List Sn) (j : Nat) (M : List Int) : St :=
  ⟨[.top, eNs y l, .int .i64 z, .top, .top, .top, .top, .mp 0 0] ++ List.replicate 15 .top ++ [.int .i64 n, .int .i64 k, .top, .top, eNs false m, .int .i64 m.length, .int .i64 j] ++ List.replicate 24 .top, [some ⟨0, mapE, true, M.map mrow⟩]⟩
theorem turn16i (y : Bool) (l : List Sn) (z : Int) (n k : Nat) (m : List Sn) (hm : m.length ≤ 1000) (M : List Int) (s0 : St) (E : Option Out)
    (hE : evLoop (evCode (evC Dg) 1100 c16b0) [1, 2, 7, 23, 24, 27, 28, 29] 1 1100 s0 = E) (h0 : norm [1, 2, 7, 23, 24, 27, 28, 29] 1 s0 = S16i y l z n k m 0 M) :
    E = evCode (evC Dg) 1100 c16b0 (S16i y l z n k m m.length (rnd m M)) := by
  refine (loop_foldE (body := evCode (evC Dg) 1100 c16b0) (keep := [1, 2, 7, 23, 24, 27, 28, 29]) (n0 := 1) (fuel := 1100) m (S16i y l z n k m) stp (fun _ _ => True) ?_ ?_ (by omega) M trivial s0 E hE h0).1
  · intro j s M ha hk _
    refine ⟨trivial, ?_⟩
    have h1 := wrap_i64 ((j : Int) + 1) (by omega) (by omega)
    have hk' : (j : Int) < m.length := by omega
    have nb : Nat.beq 1 0 = false := rfl
    unfold c16b0
    by_cases ca : s.a ∈ M
    · obtain ⟨i1, f1, g1⟩ := mf_yes0 ca
      have e1 : addK M s.a = M := by unfold addK; rw [if_pos ca]
      by_cases cb : s.b ∈ M
      · obtain ⟨i2, f2, g2⟩ := mf_yes0 cb
        have e2 : stp M s = M := by unfold stp; rw [if_pos (.inl ca), e1]; unfold addK; rw [if_pos cb]
        rw [e2]
        simp [evCode, evOps, evOne, evOp, evPur, evEff, evPur.chunks, fillP, AOp.isEff, AO.ev, putP, PV.cells, PV.leaf, getB, getM, mapE, keyC, mapRows, mfind, eq1, eqL, scal, binP, unP, minP, maxP, foldP, PV.lt, PV.lt.ltL, endP, expoAll, expo, expo.expoL, frIds, frIds.frIdsL, nodupN, kill, cls, clsFuel, resO, RV.get, loadP, evC_p, evC_s, endS, endT, rowsOf, callP, thinL, unfr, unfr.unfrL, PV.noMem, PV.noMem.noMemL, optI, mapO, norm, trimT, trimB, forget, hasN, blksLt, List.set, softChk, softGo, softRd, effTg, rdP, S16i, eNs, eN, ha, hk', h1, nb, f1, g1, f2, g2]
      · have f2 := mf_no cb 0
        have e2 : stp M s = M ++ [s.b] := by unfold stp; rw [if_pos (.inl ca), e1]; unfold addK; rw [if_neg cb]
        rw [e2]
        simp [evCode, evOps, evOne, evOp, evPur, evEff, evPur.chunks, fillP, AOp.isEff, AO.ev, putP, PV.cells, PV.leaf, getB, getM, mapE, keyC, mapRows, mfind, eq1, eqL, scal, binP, unP, minP, maxP, foldP, PV.lt, PV.lt.ltL, endP, expoAll, expo, expo.expoL, frIds, frIds.frIdsL, nodupN, kill, cls, clsFuel, resO, RV.get, loadP, evC_p, evC_s, endS, endT, rowsOf, callP, thinL, unfr, unfr.unfrL, PV.noMem, PV.noMem.noMemL, optI, mapO, norm, trimT, trimB, forget, hasN, blksLt, List.set, softChk, softGo, softRd, effTg, rdP, S16i, eNs, eN, ha, hk', h1, nb, f1, g1, f2]
        simp [mrow]
    · have f1 := mf_no ca 0
      by_cases cb : s.b ∈ M
      · obtain ⟨i2, f2, g2⟩ := mf_yes0 cb
        have e1 : addK M s.a = M ++ [s.a] := by unfold addK; rw [if_neg ca]
        have cb' : s.b ∈ M ++ [s.a] := by simp [cb]
        obtain ⟨i3, f3, g3⟩ := mf_yes0 cb'
        have e2 : stp M s = M ++ [s.a] := by unfold stp; rw [if_pos (.inr cb), e1]; unfold addK; rw [if_pos cb']
        rw [e2]
        have em : (M ++ [s.a]).map mrow = M.map mrow ++ [[.int .i64 s.a, .bool true]] := by simp [mrow]
        rw [em] at f3 g3
        simp [evCode, evOps, evOne, evOp, evPur, evEff, evPur.chunks, fillP, AOp.isEff, AO.ev, putP, PV.cells, PV.leaf, getB, getM, mapE, keyC, mapRows, mfind, eq1, eqL, scal, binP, unP, minP, maxP, foldP, PV.lt, PV.lt.ltL, endP, expoAll, expo, expo.expoL, frIds, frIds.frIdsL, nodupN, kill, cls, clsFuel, resO, RV.get, loadP, evC_p, evC_s, endS, endT, rowsOf, callP, thinL, unfr, unfr.unfrL, PV.noMem, PV.noMem.noMemL, optI, mapO, norm, trimT, trimB, forget, hasN, blksLt, List.set, softChk, softGo, softRd, effTg, rdP, S16i, eNs, eN, ha, hk', h1, nb, f1, f2, f3, g3]
        simp [mrow]
      · have f2 := mf_no cb 0
        have e2 : stp M s = M := by unfold stp; rw [if_neg (fun h => h.elim ca cb)]
        rw [e2]
        simp [evCode, evOps, evOne, evOp, evPur, evEff, evPur.chunks, fillP, AOp.isEff, AO.ev, putP, PV.cells, PV.leaf, getB, getM, mapE, keyC, mapRows, mfind, eq1, eqL, scal, binP, unP, minP, maxP, foldP, PV.lt, PV.lt.ltL, endP, expoAll, expo, expo.expoL, frIds, frIds.frIdsL, nodupN, kill, cls, clsFuel, resO, RV.get, loadP, evC_p, evC_s, endS, endT, rowsOf, callP, thinL, unfr, unfr.unfrL, PV.noMem, PV.noMem.noMemL, optI, mapO, norm, trimT, trimB, forget, hasN, blksLt, List.set, softChk, softGo, softRd, effTg, rdP, S16i, eNs, eN, ha, hk', h1, nb, f1, f2]
  · intro M _ s
    unfold c16b0
    simp [evCode, evOps, evOne, evOp, evPur, evEff, evPur.chunks, fillP, AOp.isEff, AO.ev, putP, PV.cells, PV.leaf, getB, getM, mapE, keyC, mapRows, mfind, eq1, eqL, scal, binP, unP, minP, maxP, foldP, PV.lt, PV.lt.ltL, endP, expoAll, expo, expo.expoL, frIds, frIds.frIdsL, nodupN, kill, cls, clsFuel, resO, RV.get, loadP, evC_p, evC_s, endS, endT, rowsOf, callP, thinL, unfr, unfr.unfrL, PV.noMem, PV.noMem.noMemL, optI, mapO, norm, trimT, trimB, forget, hasN, blksLt, List.set, softChk, softGo, softRd, effTg, rdP, S16i, eNs]

def S16o (y : Bool) (l : List Sn) (z : Int) (n k : Nat) (M : List Int) : St :=
  ⟨[.top, eNs y l, .int .i64 z, .top, .top, .top, .top, .mp 0 0] ++ List.replicate 15 .top ++ [.int .i64 n, .int .i64 k] ++ List.replicate 29 .top, [some ⟨0, mapE, true, M.map mrow⟩]⟩
theorem turn16o (y : Bool) (l : List Sn) (z : Int) (d : List Dm) (m : List Sn) (hd : d.length ≤ 1000) (hm : m.length ≤ 1000) (f26 : evE Dg 26 [eNs y l] = some (.fr 5 (m.map eN))) (V : List Int)
    (hl : ∀ s, s ∈ m → s ∈ l) (hV : ∀ s, s ∈ m → s.a ∈ V ∧ s.b ∈ V) (h0V : 0 ∈ V) (s0 : St) (E : Option Out)
    (hE : evLoop (evCode (evC Dg) 1100 c16b1) [1, 2, 7, 23, 24] 1 1100 s0 = E) (h0 : norm [1, 2, 7, 23, 24] 1 s0 = S16o y l z d.length 0 [0]) :
    ∃ M, RInv l m V d.length M ∧ E = evCode (evC Dg) 1100 c16b1 (S16o y l z d.length d.length M) := by
  suffices hS : (∃ M, RInv l m V d.length M ∧ E = evCode (evC Dg) 1100 c16b1 (S16o y l z d.length d.length M)) ∨ (∃ s, E = some (.ret s) ∧ False) by
    rcases hS with h | ⟨_, _, h⟩
    · exact h
    · exact h.elim
  refine loop_inv (body := evCode (evC Dg) 1100 c16b1) (keep := [1, 2, 7, 23, 24]) (n0 := 1) (fuel := 1100) d (S16o y l z d.length) (fun k M => RInv l m V k M) (fun _ => False) ?_ ?_ (by omega) [0] (.zero h0V) s0 E hE h0
  · intro k a M ha hk hI
    left
    refine ⟨rnd m M, ?_⟩
    refine (fun ⟨s', q1, q2⟩ => ⟨s', q1, q2, hI.next hl hV⟩ : (∃ s', _ ∧ _) → _) ?_
    have h1 := wrap_i64 ((k : Int) + 1) (by omega) (by omega)
    have hk' : (k : Int) < d.length := by omega
    simp only [eNs] at f26
    unfold c16b1
    simp [evCode, evOps, evOne, evOp, evPur, evEff, evPur.chunks, fillP, AOp.isEff, AO.ev, putP, PV.cells, PV.leaf, getB, getM, mapE, keyC, mapRows, mfind, eq1, eqL, scal, binP, unP, minP, maxP, foldP, PV.lt, PV.lt.ltL, endP, expoAll, expo, expo.expoL, frIds, frIds.frIdsL, nodupN, kill, cls, clsFuel, resO, RV.get, loadP, evC_p, evC_s, endS, endT, rowsOf, callP, thinL, unfr, unfr.unfrL, PV.noMem, PV.noMem.noMemL, optI, mapO, norm, trimT, trimB, forget, hasN, blksLt, List.set, softChk, softGo, softRd, effTg, rdP, S16o, eNs, hk', f26]
    generalize hE : evLoop _ _ _ _ _ = E
    have := turn16i y l z d.length k m hm M _ _ hE (by simp [evCode, evOps, evOne, evOp, evPur, evEff, evPur.chunks, fillP, AOp.isEff, AO.ev, putP, PV.cells, PV.leaf, getB, getM, mapE, keyC, mapRows, mfind, eq1, eqL, scal, binP, unP, minP, maxP, foldP, PV.lt, PV.lt.ltL, endP, expoAll, expo, expo.expoL, frIds, frIds.frIdsL, nodupN, kill, cls, clsFuel, resO, RV.get, loadP, evC_p, evC_s, endS, endT, rowsOf, callP, thinL, unfr, unfr.unfrL, PV.noMem, PV.noMem.noMemL, optI, mapO, norm, trimT, trimB, forget, hasN, blksLt, List.set, softChk, softGo, softRd, effTg, rdP, S16i, eNs])
    rw [this]
    unfold c16b0
    simp [evCode, evOps, evOne, evOp, evPur, evEff, evPur.chunks, fillP, AOp.isEff, AO.ev, putP, PV.cells, PV.leaf, getB, getM, mapE, keyC, mapRows, mfind, eq1, eqL, scal, binP, unP, minP, maxP, foldP, PV.lt, PV.lt.ltL, endP, expoAll, expo, expo.expoL, frIds, frIds.frIdsL, nodupN, kill, cls, clsFuel, resO, RV.get, loadP, evC_p, evC_s, endS, endT, rowsOf, callP, thinL, unfr, unfr.unfrL, PV.noMem, PV.noMem.noMemL, optI, mapO, norm, trimT, trimB, forget, hasN, blksLt, List.set, softChk, softGo, softRd, effTg, rdP, S16i, eNs, h1]
  · intro M _ s
    unfold c16b1
    simp [evCode, evOps, evOne, evOp, evPur, evEff, evPur.chunks, fillP, AOp.isEff, AO.ev, putP, PV.cells, PV.leaf, getB, getM, mapE, keyC, mapRows, mfind, eq1, eqL, scal, binP, unP, minP, maxP, foldP, PV.lt, PV.lt.ltL, endP, expoAll, expo, expo.expoL, frIds, frIds.frIdsL, nodupN, kill, cls, clsFuel, resO, RV.get, loadP, evC_p, evC_s, endS, endT, rowsOf, callP, thinL, unfr, unfr.unfrL, PV.noMem, PV.noMem.noMemL, optI, mapO, norm, trimT, trimB, forget, hasN, blksLt, List.set, softChk, softGo, softRd, effTg, rdP, S16o, eNs]
def Lk (d : List Dm) (l : List Sn) (z : Int) : Prop := ckF d l = 0 ∧ z ∈ d.map (·.1) ∧ Rch l z
theorem f16 (x y : Bool) (d : List Dm) (l : List Sn) (z : Int) (hd : d.length ≤ 1000) (hl : l.length ≤ 1000) : ∃ b, evE Dg 16 [eDs x d, eNs y l, .int .i64 z] = some (.bool b) ∧ (b = true ↔ Lk d l z) := by
  suffices h : ∃ v, evE Dg 16 [eDs x d, eNs y l, .int .i64 z] = some v ∧ ∃ b, v = .bool b ∧ (b = true ↔ Lk d l z) by
    obtain ⟨v, h1, b, rfl, h2⟩ := h
    exact ⟨b, h1, h2⟩
  have h1 := f12 x y d l hd hl
  have h2 := f22 x z d hd
  refine evE_introX 1100 D16 rfl ?_
  by_cases hc : ckF d l = 0
  · obtain ⟨c1, c2, c3, c4⟩ := ck_ids hc
    have hz := @fnd_mem z d
    rw [hc] at h1
    by_cases hf : fnd z d < 0
    · have hL : ¬ Lk d l z := fun h => by have := hz.2 h.2.1; omega
      generalize fnd z d = F at *
      simp only [eDs, eNs] at h1 h2
      unfold c16
      simp [evCode, evOps, evOne, evOp, evPur, evEff, evPur.chunks, fillP, AOp.isEff, AO.ev, putP, PV.cells, PV.leaf, getB, getM, mapE, keyC, mapRows, mfind, eq1, eqL, scal, binP, unP, minP, maxP, foldP, PV.lt, PV.lt.ltL, endP, expoAll, expo, expo.expoL, frIds, frIds.frIdsL, nodupN, kill, cls, clsFuel, resO, RV.get, loadP, evC_p, evC_s, endS, endT, rowsOf, callP, thinL, unfr, unfr.unfrL, PV.noMem, PV.noMem.noMemL, optI, mapO, norm, trimT, trimB, forget, hasN, blksLt, List.set, softChk, softGo, softRd, effTg, rdP, eDs, eNs, h1, h2, hf]
      exact hL
    · have hz' := hz.1 (by omega)
      generalize fnd z d = F at *
      obtain ⟨m, m1, m2, m3⟩ := f26 y l hl
      have H := turn16o y l z d m hd (by omega) m1 (d.map (·.1)) (fun s hs => (m3 s).1 hs) (fun s hs => c4 s ((m3 s).1 hs)) c3
      simp only [eDs, eNs] at h1 h2
      unfold c16
      simp [evCode, evOps, evOne, evOp, evPur, evEff, evPur.chunks, fillP, AOp.isEff, AO.ev, putP, PV.cells, PV.leaf, getB, getM, mapE, keyC, mapRows, mfind, eq1, eqL, scal, binP, unP, minP, maxP, foldP, PV.lt, PV.lt.ltL, endP, expoAll, expo, expo.expoL, frIds, frIds.frIdsL, nodupN, kill, cls, clsFuel, resO, RV.get, loadP, evC_p, evC_s, endS, endT, rowsOf, callP, thinL, unfr, unfr.unfrL, PV.noMem, PV.noMem.noMemL, optI, mapO, norm, trimT, trimB, forget, hasN, blksLt, List.set, softChk, softGo, softRd, effTg, rdP, eDs, eNs, h1, h2, hf]
      generalize hE : evLoop _ _ _ _ _ = E
      obtain ⟨M, hI, e⟩ := H _ _ hE (by simp [evCode, evOps, evOne, evOp, evPur, evEff, evPur.chunks, fillP, AOp.isEff, AO.ev, putP, PV.cells, PV.leaf, getB, getM, mapE, keyC, mapRows, mfind, eq1, eqL, scal, binP, unP, minP, maxP, foldP, PV.lt, PV.lt.ltL, endP, expoAll, expo, expo.expoL, frIds, frIds.frIdsL, nodupN, kill, cls, clsFuel, resO, RV.get, loadP, evC_p, evC_s, endS, endT, rowsOf, callP, thinL, unfr, unfr.unfrL, PV.noMem, PV.noMem.noMemL, optI, mapO, norm, trimT, trimB, forget, hasN, blksLt, List.set, softChk, softGo, softRd, effTg, rdP, S16o, eNs, mrow])
      have hM := hI.done (fun s hs => (m3 s).2 hs) (by simp) z
      rw [e]
      by_cases hzM : z ∈ M
      · obtain ⟨j, f1, g1⟩ := mf_yes0 hzM
        unfold c16b1
        simp [evCode, evOps, evOne, evOp, evPur, evEff, evPur.chunks, fillP, AOp.isEff, AO.ev, putP, PV.cells, PV.leaf, getB, getM, mapE, keyC, mapRows, mfind, eq1, eqL, scal, binP, unP, minP, maxP, foldP, PV.lt, PV.lt.ltL, endP, expoAll, expo, expo.expoL, frIds, frIds.frIdsL, nodupN, kill, cls, clsFuel, resO, RV.get, loadP, evC_p, evC_s, endS, endT, rowsOf, callP, thinL, unfr, unfr.unfrL, PV.noMem, PV.noMem.noMemL, optI, mapO, norm, trimT, trimB, forget, hasN, blksLt, List.set, softChk, softGo, softRd, effTg, rdP, S16o, eNs, f1]
        exact ⟨hc, hz', hM.1 hzM⟩
      · have f1 := mf_no hzM 0
        unfold c16b1
        simp [evCode, evOps, evOne, evOp, evPur, evEff, evPur.chunks, fillP, AOp.isEff, AO.ev, putP, PV.cells, PV.leaf, getB, getM, mapE, keyC, mapRows, mfind, eq1, eqL, scal, binP, unP, minP, maxP, foldP, PV.lt, PV.lt.ltL, endP, expoAll, expo, expo.expoL, frIds, frIds.frIdsL, nodupN, kill, cls, clsFuel, resO, RV.get, loadP, evC_p, evC_s, endS, endT, rowsOf, callP, thinL, unfr, unfr.unfrL, PV.noMem, PV.noMem.noMemL, optI, mapO, norm, trimT, trimB, forget, hasN, blksLt, List.set, softChk, softGo, softRd, effTg, rdP, S16o, eNs, f1]
        exact fun h => hzM (hM.2 h.2.2)
  · have hL : ¬ Lk d l z := fun h => hc h.1
    generalize ckF d l = C at *
    generalize fnd z d = F at *
    simp only [eDs, eNs] at h1 h2
    unfold c16
    simp [evCode, evOps, evOne, evOp, evPur, evEff, evPur.chunks, fillP, AOp.isEff, AO.ev, putP, PV.cells, PV.leaf, getB, getM, mapE, keyC, mapRows, mfind, eq1, eqL, scal, binP, unP, minP, maxP, foldP, PV.lt, PV.lt.ltL, endP, expoAll, expo, expo.expoL, frIds, frIds.frIdsL, nodupN, kill, cls, clsFuel, resO, RV.get, loadP, evC_p, evC_s, endS, endT, rowsOf, callP, thinL, unfr, unfr.unfrL, PV.noMem, PV.noMem.noMemL, optI, mapO, norm, trimT, trimB, forget, hasN, blksLt, List.set, softChk, softGo, softRd, effTg, rdP, eDs, eNs, h1, h2, hc]
    exact hL
end Go.Proofs.Ytkdalahepedghaa
