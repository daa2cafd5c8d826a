/- FracLong. -/
import Derived.Test.YtddglikicokpeaaDoorFrY
namespace Go.Proofs.YtddglikicokpeaaDoor
open Go Go.RowKit
set_option linter.unusedVariables false
set_option linter.unusedSimpArgs false
set_option maxHeartbeats 4000000

theorem fold_snoc {α : Type} : ∀ (l o : List α), l.foldl (fun o a => o ++ [a]) o = o ++ l
  | [], o => by simp
  | a :: l, o => by simp [fold_snoc l]
theorem rFs_add (l : List Fr) (a : Fr) : rFs l ++ [rF a] = rFs (l ++ [a]) := by simp [rFs]
theorem rFs_all (l : List Fr) : (rFs l).take l.length = rFs l := by rw [List.take_of_length_le (by simp [rFs])]
theorem rFs_lt (l : List Fr) : (rFs l).all (PV.lt.ltL 0) = true := by
  rw [List.all_eq_true]
  intro r hr
  obtain ⟨s, _, rfl⟩ := List.mem_map.1 hr
  rfl
theorem ones64 (n : Nat) : ∀ a ∈ List.replicate n ((1, 1) : Fr), i64F a := fun a ha => by
  rw [(List.mem_replicate.1 ha).2]
  exact ⟨⟨by decide, by decide⟩, ⟨by decide, by decide⟩⟩
def S10 (n : Nat) (k : Nat) (o : List Fr) : St := ⟨[.int .i64 n, .top, .top, .own 0 o.length 0 o.length, .int .i64 k] ++ List.replicate 45 .top, [some ⟨o.length, 2, true, rFs o⟩]⟩
set_option maxRecDepth 100000 in
theorem turn10 (n : Nat) (hn : n ≤ 20100) (s0 : St) (E : Option Out) (hE : evLoop (evCode (evC Dg) 30000 c10b0) [0, 3, 4] 1 30000 s0 = E) (h0 : norm [0, 3, 4] 1 s0 = S10 n 0 []) :
    E = evCode (evC Dg) 30000 c10b0 (S10 n n (List.replicate n (1, 1))) := by
  have hlen : (List.replicate n ((1, 1) : Fr)).length = n := List.length_replicate
  have H := loop_foldE (body := evCode (evC Dg) 30000 c10b0) (keep := [0, 3, 4]) (n0 := 1) (fuel := 30000) (List.replicate n ((1, 1) : Fr)) (S10 n) (fun o a => o ++ [a]) (fun k o => o.length = k) ?_ ?_ (by omega) [] rfl s0 E hE h0
  · rw [fold_snoc, List.nil_append, hlen] at H
    exact H.1
  · intro k a o ha hk hI
    refine ⟨by simp [hI], ?_⟩
    have hk2 : k < n := by omega
    have hk' : (k : Int) < n := by omega
    have w1 := wrap_i64 ((k : Int) + 1) (by omega) (by omega)
    have e := (List.mem_replicate.1 (List.mem_of_getElem? ha)).2
    subst e
    have q := f30 1 1
    have er := rFs_add o (1, 1)
    have eO := rFs_len o
    have b1 : (o.length + 1) * 16 ≤ 140737488355328 := by omega
    have b2 : o.length + 1 ≤ 140737488355328 := by omega
    simp only [eF, rF] at q er
    unfold c10b0
    simp [evCode, evOps, evOne, evOp, evPur, evEff, evPur.chunks, fillP, AOp.isEff, AO.ev, putP, PV.cells, PV.leaf, getB, getM, mapE, iterE, keyC, mapRows, mfind, eq1, eqL, scal, binP, unP, minP, maxP, foldP, PV.lt, PV.lt.ltL, endP, expoAll, expoG, expo, expo.expoL, frIds, frIds.frIdsL, nodupN, kill, cls, clsFuel, resO, RV.get, loadP, evC_p, evC_s, endS, endT, rowsOf, callP, thinL, unfr, unfr.unfrL, PV.noMem, PV.noMem.noMemL, optI, mapO, norm, trimT, trimB, forget, hasN, blksLt, List.set, softChk, softGo, softRd, effTg, rdP, S10, hk', w1, q, er, eO, b1, b2]
  · intro o _ s
    rw [hlen]
    unfold c10b0
    simp [evCode, evOps, evOne, evOp, evPur, evEff, evPur.chunks, fillP, AOp.isEff, AO.ev, putP, PV.cells, PV.leaf, getB, getM, mapE, iterE, keyC, mapRows, mfind, eq1, eqL, scal, binP, unP, minP, maxP, foldP, PV.lt, PV.lt.ltL, endP, expoAll, expoG, expo, expo.expoL, frIds, frIds.frIdsL, nodupN, kill, cls, clsFuel, resO, RV.get, loadP, evC_p, evC_s, endS, endT, rowsOf, callP, thinL, unfr, unfr.unfrL, PV.noMem, PV.noMem.noMemL, optI, mapO, norm, trimT, trimB, forget, hasN, blksLt, List.set, softChk, softGo, softRd, effTg, rdP, S10]
set_option maxRecDepth 100000 in
theorem f10 (n : Int) : evE Dg 10 [.int .i64 n] = some (.bool true) := by
  have h14 := f14
  by_cases hn : n < 0
  · refine evE_intro 1 D10 rfl ?_
    unfold c10
    simp [evCode, evOps, evOne, evOp, evPur, evEff, evPur.chunks, fillP, AOp.isEff, AO.ev, putP, PV.cells, PV.leaf, getB, getM, mapE, iterE, keyC, mapRows, mfind, eq1, eqL, scal, binP, unP, minP, maxP, foldP, PV.lt, PV.lt.ltL, endP, expoAll, expoG, expo, expo.expoL, frIds, frIds.frIdsL, nodupN, kill, cls, clsFuel, resO, RV.get, loadP, evC_p, evC_s, endS, endT, rowsOf, callP, thinL, unfr, unfr.unfrL, PV.noMem, PV.noMem.noMemL, optI, mapO, norm, trimT, trimB, forget, hasN, blksLt, List.set, softChk, softGo, softRd, effTg, rdP, hn, h14]
  · obtain ⟨N, rfl⟩ := Int.eq_ofNat_of_zero_le (show 0 ≤ n by omega)
    by_cases hb : 20100 < N
    · have hb' : (20100 : Int) < N := by omega
      refine evE_intro 1 D10 rfl ?_
      unfold c10
      simp [evCode, evOps, evOne, evOp, evPur, evEff, evPur.chunks, fillP, AOp.isEff, AO.ev, putP, PV.cells, PV.leaf, getB, getM, mapE, iterE, keyC, mapRows, mfind, eq1, eqL, scal, binP, unP, minP, maxP, foldP, PV.lt, PV.lt.ltL, endP, expoAll, expoG, expo, expo.expoL, frIds, frIds.frIdsL, nodupN, kill, cls, clsFuel, resO, RV.get, loadP, evC_p, evC_s, endS, endT, rowsOf, callP, thinL, unfr, unfr.unfrL, PV.noMem, PV.noMem.noMemL, optI, mapO, norm, trimT, trimB, forget, hasN, blksLt, List.set, softChk, softGo, softRd, effTg, rdP, hn, hb', h14]
    · have hb' : ¬ (20100 : Int) < N := by omega
      have T := fun s0 E => turn10 N (by omega) s0 E
      have eO := rFs_len (List.replicate N ((1, 1) : Fr))
      have ea := rFs_all (List.replicate N ((1, 1) : Fr))
      rw [List.length_replicate] at eO ea
      have q27 := f27 false (List.replicate N ((1, 1) : Fr)) (by rw [List.length_replicate]; omega) (ones64 N)
      have q30 := f30 0 0
      have q31 := f30 N 1
      simp only [eF] at q30 q31
      refine evE_intro 30000 D10 rfl ?_
      unfold c10
      simp [evCode, evOps, evOne, evOp, evPur, evEff, evPur.chunks, fillP, AOp.isEff, AO.ev, putP, PV.cells, PV.leaf, getB, getM, mapE, iterE, keyC, mapRows, mfind, eq1, eqL, scal, binP, unP, minP, maxP, foldP, PV.lt, PV.lt.ltL, endP, expoAll, expoG, expo, expo.expoL, frIds, frIds.frIdsL, nodupN, kill, cls, clsFuel, resO, RV.get, loadP, evC_p, evC_s, endS, endT, rowsOf, callP, thinL, unfr, unfr.unfrL, PV.noMem, PV.noMem.noMemL, optI, mapO, norm, trimT, trimB, forget, hasN, blksLt, List.set, softChk, softGo, softRd, effTg, rdP, hn, hb', h14]
      generalize hE : evLoop (evCode (evC Dg) 30000 c10b0) [0, 3, 4] 1 30000 _ = E
      have T2 := T _ E hE (by simp [evCode, evOps, evOne, evOp, evPur, evEff, evPur.chunks, fillP, AOp.isEff, AO.ev, putP, PV.cells, PV.leaf, getB, getM, mapE, iterE, keyC, mapRows, mfind, eq1, eqL, scal, binP, unP, minP, maxP, foldP, PV.lt, PV.lt.ltL, endP, expoAll, expoG, expo, expo.expoL, frIds, frIds.frIdsL, nodupN, kill, cls, clsFuel, resO, RV.get, loadP, evC_p, evC_s, endS, endT, rowsOf, callP, thinL, unfr, unfr.unfrL, PV.noMem, PV.noMem.noMemL, optI, mapO, norm, trimT, trimB, forget, hasN, blksLt, List.set, softChk, softGo, softRd, effTg, rdP, S10, rFs])
      rw [T2]
      unfold S10
      rw [List.length_replicate]
      by_cases hl : 20000 < N
      · have hl' : (20000 : Int) < N := by omega
        have hs : sumS (List.replicate N ((1, 1) : Fr)) = ((0, 0), false) := if_neg (fun h => by have := h.1; rw [List.length_replicate] at this; omega)
        rw [hs] at q27
        generalize rFs (List.replicate N ((1, 1) : Fr)) = Z at *
        simp only [eR, eF] at q27
        unfold c10b0 c10r0
        simp [evCode, evOps, evOne, evOp, evPur, evEff, evPur.chunks, fillP, AOp.isEff, AO.ev, putP, PV.cells, PV.leaf, getB, getM, mapE, iterE, keyC, mapRows, mfind, eq1, eqL, scal, binP, unP, minP, maxP, foldP, PV.lt, PV.lt.ltL, endP, expoAll, expoG, expo, expo.expoL, frIds, frIds.frIdsL, nodupN, kill, cls, clsFuel, resO, RV.get, loadP, evC_p, evC_s, endS, endT, rowsOf, callP, thinL, unfr, unfr.unfrL, PV.noMem, PV.noMem.noMemL, optI, mapO, norm, trimT, trimB, forget, hasN, blksLt, List.set, softChk, softGo, softRd, effTg, rdP, eO, ea, q27, q30, q31, hl', h14]
      · have hl' : ¬ (20000 : Int) < N := by omega
        have hs := sum_ones N (by omega)
        rw [hs] at q27
        generalize rFs (List.replicate N ((1, 1) : Fr)) = Z at *
        simp only [eR, eF] at q27
        unfold c10b0 c10r0
        simp [evCode, evOps, evOne, evOp, evPur, evEff, evPur.chunks, fillP, AOp.isEff, AO.ev, putP, PV.cells, PV.leaf, getB, getM, mapE, iterE, keyC, mapRows, mfind, eq1, eqL, scal, binP, unP, minP, maxP, foldP, PV.lt, PV.lt.ltL, endP, expoAll, expoG, expo, expo.expoL, frIds, frIds.frIdsL, nodupN, kill, cls, clsFuel, resO, RV.get, loadP, evC_p, evC_s, endS, endT, rowsOf, callP, thinL, unfr, unfr.unfrL, PV.noMem, PV.noMem.noMemL, optI, mapO, norm, trimT, trimB, forget, hasN, blksLt, List.set, softChk, softGo, softRd, effTg, rdP, eO, ea, q27, q30, q31, hl', h14]
theorem law10 (ps : List PV) (h : ArgL Tryd.prog 12 [3] ps) : evE Dg 10 ps = some (.bool true) := by
  obtain ⟨p, rfl, h1⟩ := argL1 h
  obtain ⟨n, rfl, _⟩ := argT_int Tryd.underlying3 h1
  exact f10 n

def S9 (l : List Fr) (x : Fr) (i : Nat) (o : List Fr) : St :=
  ⟨[.sl false 2 (rFs l), .top, .top, .ptr 0 1 0 0, .top, .own 1 o.length 0 o.length, .int .i64 i] ++ List.replicate 84 .top, [some ⟨1, 2, true, [[.int .i64 x.1, .int .i64 x.2]]⟩, some ⟨o.length, 2, true, rFs o⟩]⟩
set_option maxRecDepth 100000 in
theorem turn9 (l : List Fr) (x : Fr) (hl : l.length ≤ 200) (hv : ∀ a ∈ l, validF a) (s0 : St) (E : Option Out) (hE : evLoop (evCode (evC Dg) 30000 c9b0) [0, 3, 5, 6] 2 30000 s0 = E) (h0 : norm [0, 3, 5, 6] 2 s0 = S9 l x 0 l) :
    E = evCode (evC Dg) 30000 c9b0 (S9 l x l.length (l ++ l.map negS)) := by
  have hf : l.foldl (fun o a => o ++ [negS a]) l = l ++ l.map negS := by
    have : ∀ (r o : List Fr), r.foldl (fun o a => o ++ [negS a]) o = o ++ r.map negS := by
      intro r
      induction r with
      | nil => intro o; simp
      | cons a r ih => intro o; simp [ih]
    exact this l l
  have H := loop_foldE (body := evCode (evC Dg) 30000 c9b0) (keep := [0, 3, 5, 6]) (n0 := 2) (fuel := 30000) l (S9 l x) (fun o a => o ++ [negS a]) (fun k o => o.length = l.length + k) ?_ ?_ (by omega) l rfl s0 E hE h0
  · rw [hf] at H
    exact H.1
  · intro k a o ha hk hI
    refine ⟨by simp [hI]; omega, ?_⟩
    have hk' : (k : Int) < l.length := by omega
    have w1 := wrap_i64 ((k : Int) + 1) (by omega) (by omega)
    obtain ⟨a1, a2, a3, a4, a5⟩ := hv a (List.mem_of_getElem? ha)
    have w2 := wrap_i64 (-a.1) (by omega) (by omega)
    have w3 := wrap_i64 (0 - a.1) (by omega) (by omega)
    have w4 : 0 - a.1 = -a.1 := by omega
    have q := f30 (-a.1) a.2
    have er : rFs o ++ [[.int .i64 (-a.1), .int .i64 a.2]] = rFs (o ++ [negS a]) := rFs_add o (negS a)
    have eO := rFs_len o
    have eL := rFs_len l
    have eg := rFs_get ha
    have eg' := rFs_getE ha
    have b1 : (o.length + 1) * 16 ≤ 140737488355328 := by omega
    have b2 : o.length + 1 ≤ 140737488355328 := by omega
    simp only [eF] at q
    unfold c9b0
    simp [evCode, evOps, evOne, evOp, evPur, evEff, evPur.chunks, fillP, AOp.isEff, AO.ev, putP, PV.cells, PV.leaf, getB, getM, mapE, iterE, keyC, mapRows, mfind, eq1, eqL, scal, binP, unP, minP, maxP, foldP, PV.lt, PV.lt.ltL, endP, expoAll, expoG, expo, expo.expoL, frIds, frIds.frIdsL, nodupN, kill, cls, clsFuel, resO, RV.get, loadP, evC_p, evC_s, endS, endT, rowsOf, callP, thinL, unfr, unfr.unfrL, PV.noMem, PV.noMem.noMemL, optI, mapO, norm, trimT, trimB, forget, hasN, blksLt, List.set, softChk, softGo, softRd, effTg, rdP, S9, rF, eL, eg, eg', hk, hk', w1, w2, w3, w4, q, er, eO, b1, b2]
  · intro o _ s
    have eL := rFs_len l
    unfold c9b0
    simp [evCode, evOps, evOne, evOp, evPur, evEff, evPur.chunks, fillP, AOp.isEff, AO.ev, putP, PV.cells, PV.leaf, getB, getM, mapE, iterE, keyC, mapRows, mfind, eq1, eqL, scal, binP, unP, minP, maxP, foldP, PV.lt, PV.lt.ltL, endP, expoAll, expoG, expo, expo.expoL, frIds, frIds.frIdsL, nodupN, kill, cls, clsFuel, resO, RV.get, loadP, evC_p, evC_s, endS, endT, rowsOf, callP, thinL, unfr, unfr.unfrL, PV.noMem, PV.noMem.noMemL, optI, mapO, norm, trimT, trimB, forget, hasN, blksLt, List.set, softChk, softGo, softRd, effTg, rdP, S9, eL]
theorem ht_frac {d : Nat} {r : List PV} (h : HT Tryd.prog (d + 2) 23 r) : ∃ a : Fr, r = rF a ∧ i64F a := by
  have h := ht_struct Tryd.underlying23 h
  obtain ⟨p0, q0, rfl, h0, h⟩ := htf_cons h
  obtain ⟨p1, q1, rfl, h1, h⟩ := htf_cons h
  obtain rfl := htf_nil h
  obtain ⟨i0, rfl, w0⟩ := ht_int Tryd.underlying3 h0
  obtain ⟨i1, rfl, w1⟩ := ht_int Tryd.underlying3 h1
  exact ⟨(i0, i1), rfl, wf_i64 w0, wf_i64 w1⟩
theorem in_fracs {d : Nat} {p : PV} (h : ArgT Tryd.prog (d + 3) 35 p) : ∃ l : List Fr, p = .sl false 2 (rFs l) ∧ l.length ≤ maxLen ∧ ∀ a ∈ l, i64F a := by
  obtain ⟨l, h1, h2, h3⟩ := argT_rows (f := rF) (Q := i64F) Tryd.underlying35 (c := 2) (by kernel_rfl) (fun r hr => ht_frac hr) (argT_slice Tryd.underlying35 h)
  exact ⟨l, (List.cons.inj h1).1, h2, h3⟩
end Go.Proofs.YtddglikicokpeaaDoor
