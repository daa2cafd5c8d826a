/- spans: the reference's put and ends. -/
import Derived.Test.YtildbjepbnjbfaaSpI
namespace Go.Proofs.Ytildbjepbnjbfaa
open Go Go.RowKit
set_option linter.unusedVariables false
set_option linter.unusedSimpArgs false
set_option maxHeartbeats 8000000

def putS (n : Int) (x : List Int × Bool) (z : Int) : List Int × Bool :=
  let p := if x.2 = false ∧ n ≤ z then (x.1 ++ [n], true) else x
  if z = n then p else (p.1 ++ [z], p.2)
theorem putS_done (n : Int) : ∀ (l o : List Int), (∀ z ∈ l, n < z) → l.foldl (putS n) (o, true) = (o ++ l, true)
  | [], o, _ => by simp
  | z :: l, o, h => by
    have hz := h z (by simp)
    have hne : ¬ z = n := by omega
    rw [List.foldl_cons]
    have : putS n (o, true) z = (o ++ [z], true) := by simp [putS, hne]
    rw [this, putS_done n l _ fun y hy => h y (by simp [hy])]
    simp
theorem putS_all (n : Int) : ∀ (l o : List Int), l.Pairwise (· < ·) → (if (l.foldl (putS n) (o, false)).2 then (l.foldl (putS n) (o, false)).1 else (l.foldl (putS n) (o, false)).1 ++ [n]) = o ++ insE n l
  | [], o, _ => by simp [insE]
  | z :: l, o, h => by
    obtain ⟨h1, h2⟩ := List.pairwise_cons.1 h
    rw [List.foldl_cons]
    unfold insE
    by_cases c : n ≤ z
    · rw [if_pos c]
      by_cases e : z = n
      · subst e
        have : putS z (o, false) z = (o ++ [z], true) := by simp [putS]
        rw [this, putS_done z l _ h1]
        simp
      · have : putS n (o, false) z = (o ++ [n] ++ [z], true) := by simp [putS, c, e]
        rw [this, putS_done n l _ fun y hy => by have := h1 y hy; omega]
        simp [e]
    · rw [if_neg c]
      have e : ¬ z = n := by omega
      have : putS n (o, false) z = (o ++ [z], false) := by simp [putS, c, e]
      rw [this, putS_all n l _ h2]
      simp
theorem putS_len (n : Int) (x : List Int × Bool) (z : Int) : (putS n x z).1.length ≤ x.1.length + 2 := by
  unfold putS
  simp only
  split <;> split <;> simp
def eI (l : List Int) : PV := .sl false 1 (inR l)
def S50 (l : List Int) (n : Int) (k : Nat) (u : List Int × Bool) : St :=
  ⟨[eI l, .int .i64 n, .top, .top, .top, .own 1 u.1.length 0 u.1.length, .bool u.2, .int .i64 k] ++ List.replicate 40 .top, [some ⟨0, 1, true, []⟩, some ⟨u.1.length, 1, true, inR u.1⟩]⟩
theorem inR_nil : inR [] = [] := rfl
theorem inR_one (z : Int) : inR [z] = [[.int .i64 z]] := rfl
set_option maxRecDepth 100000 in
theorem f50 (l : List Int) (n : Int) (hl : l.length ≤ 1000) (hs : l.Pairwise (· < ·)) : evE Dg 50 [eI l, .int .i64 n] = some (.fr 1 (inR (insE n l))) := by
  have e1 := inR_len l
  have H1 := loop_foldE (body := evCode (evC Dg) 2000 c50b0) (keep := [0, 1, 5, 6, 7]) (n0 := 2) (fuel := 2000) l (S50 l n) (putS n) (fun k u => u.1.length ≤ 2 * k)
    (by
      rintro k z ⟨o, dn⟩ hz hk ho
      simp only at ho
      have hk' : (k : Int) < l.length := by omega
      have w1 := wrap_i64 ((k : Int) + 1) (by omega) (by omega)
      have r1 := inR_get hz
      have g1 := inR_got hz
      have e2 := inR_len o
      have e3 := inR_app o [n]
      have e4 := inR_app o [z]
      have e5 : inR (o ++ [n, z]) = inR o ++ [[.int .i64 n]] ++ [[.int .i64 z]] := by rw [inR_app]; simp [inR]
      have q1 := inR_one n
      have q2 := inR_one z
      have m1 : (o.length + 1) * 8 ≤ 140737488355328 := by omega
      have m2 : o.length + 1 ≤ 140737488355328 := by omega
      have m3 : (o.length + 1 + 1) * 8 ≤ 140737488355328 := by omega
      have m4 : o.length + 1 + 1 ≤ 140737488355328 := by omega
      have hpl := putS_len n (o, dn) z
      refine ⟨by simp only at hpl ⊢; omega, ?_⟩
      unfold c50b0
      cases dn
      · by_cases c : n ≤ z
        · by_cases e : z = n
          · subst e
            simp [evCode, evOps, evOne, evOp, evPur, evEff, evPur.chunks, fillP, AOp.isEff, AO.ev, putP, PV.cells, PV.leaf, getB, getM, mapE, keyC, mapRows, mfind, eq1, eqL, scal, binP, unP, minP, maxP, foldP, PV.lt, PV.lt.ltL, endP, expoAll, expo, expo.expoL, frIds, frIds.frIdsL, nodupN, kill, cls, clsFuel, resO, RV.get, loadP, evC_p, evC_s, endS, endT, rowsOf, callP, thinL, unfr, unfr.unfrL, PV.noMem, PV.noMem.noMemL, optI, mapO, norm, trimT, trimB, forget, hasN, blksLt, List.set, S50, eI, e1, e2, e3, q1, r1, g1, hk, hk', w1, m1, m2, putS]
          · simp [evCode, evOps, evOne, evOp, evPur, evEff, evPur.chunks, fillP, AOp.isEff, AO.ev, putP, PV.cells, PV.leaf, getB, getM, mapE, keyC, mapRows, mfind, eq1, eqL, scal, binP, unP, minP, maxP, foldP, PV.lt, PV.lt.ltL, endP, expoAll, expo, expo.expoL, frIds, frIds.frIdsL, nodupN, kill, cls, clsFuel, resO, RV.get, loadP, evC_p, evC_s, endS, endT, rowsOf, callP, thinL, unfr, unfr.unfrL, PV.noMem, PV.noMem.noMemL, optI, mapO, norm, trimT, trimB, forget, hasN, blksLt, List.set, S50, eI, e1, e2, e3, e4, e5, q1, q2, r1, g1, hk, hk', w1, m1, m2, m3, m4, putS, c, e]
        · have e : ¬ z = n := by omega
          simp [evCode, evOps, evOne, evOp, evPur, evEff, evPur.chunks, fillP, AOp.isEff, AO.ev, putP, PV.cells, PV.leaf, getB, getM, mapE, keyC, mapRows, mfind, eq1, eqL, scal, binP, unP, minP, maxP, foldP, PV.lt, PV.lt.ltL, endP, expoAll, expo, expo.expoL, frIds, frIds.frIdsL, nodupN, kill, cls, clsFuel, resO, RV.get, loadP, evC_p, evC_s, endS, endT, rowsOf, callP, thinL, unfr, unfr.unfrL, PV.noMem, PV.noMem.noMemL, optI, mapO, norm, trimT, trimB, forget, hasN, blksLt, List.set, S50, eI, e1, e2, e4, q2, r1, g1, hk, hk', w1, m1, m2, putS, c, e]
      · by_cases e : z = n
        · subst e
          simp [evCode, evOps, evOne, evOp, evPur, evEff, evPur.chunks, fillP, AOp.isEff, AO.ev, putP, PV.cells, PV.leaf, getB, getM, mapE, keyC, mapRows, mfind, eq1, eqL, scal, binP, unP, minP, maxP, foldP, PV.lt, PV.lt.ltL, endP, expoAll, expo, expo.expoL, frIds, frIds.frIdsL, nodupN, kill, cls, clsFuel, resO, RV.get, loadP, evC_p, evC_s, endS, endT, rowsOf, callP, thinL, unfr, unfr.unfrL, PV.noMem, PV.noMem.noMemL, optI, mapO, norm, trimT, trimB, forget, hasN, blksLt, List.set, S50, eI, e1, e2, r1, g1, hk, hk', w1, putS]
        · simp [evCode, evOps, evOne, evOp, evPur, evEff, evPur.chunks, fillP, AOp.isEff, AO.ev, putP, PV.cells, PV.leaf, getB, getM, mapE, keyC, mapRows, mfind, eq1, eqL, scal, binP, unP, minP, maxP, foldP, PV.lt, PV.lt.ltL, endP, expoAll, expo, expo.expoL, frIds, frIds.frIdsL, nodupN, kill, cls, clsFuel, resO, RV.get, loadP, evC_p, evC_s, endS, endT, rowsOf, callP, thinL, unfr, unfr.unfrL, PV.noMem, PV.noMem.noMemL, optI, mapO, norm, trimT, trimB, forget, hasN, blksLt, List.set, S50, eI, e1, e2, e4, q2, r1, g1, hk, hk', w1, m1, m2, putS, e])
    (by
      rintro ⟨o, dn⟩ _ s
      unfold c50b0
      simp [evCode, evOps, evOne, evOp, evPur, evEff, evPur.chunks, fillP, AOp.isEff, AO.ev, putP, PV.cells, PV.leaf, getB, getM, mapE, keyC, mapRows, mfind, eq1, eqL, scal, binP, unP, minP, maxP, foldP, PV.lt, PV.lt.ltL, endP, expoAll, expo, expo.expoL, frIds, frIds.frIdsL, nodupN, kill, cls, clsFuel, resO, RV.get, loadP, evC_p, evC_s, endS, endT, rowsOf, callP, thinL, unfr, unfr.unfrL, PV.noMem, PV.noMem.noMemL, optI, mapO, norm, trimT, trimB, forget, hasN, blksLt, List.set, S50, eI, e1])
    (by omega) ([], false) (by simp)
  have key := putS_all n l [] hs
  rw [List.nil_append] at key
  refine evE_intro 2000 D50 rfl ?_
  unfold c50
  simp [evCode, evOps, evOne, evOp, evPur, evEff, evPur.chunks, fillP, AOp.isEff, AO.ev, putP, PV.cells, PV.leaf, getB, getM, mapE, keyC, mapRows, mfind, eq1, eqL, scal, binP, unP, minP, maxP, foldP, PV.lt, PV.lt.ltL, endP, expoAll, expo, expo.expoL, frIds, frIds.frIdsL, nodupN, kill, cls, clsFuel, resO, RV.get, loadP, evC_p, evC_s, endS, endT, rowsOf, callP, thinL, unfr, unfr.unfrL, PV.noMem, PV.noMem.noMemL, optI, mapO, norm, trimT, trimB, forget, hasN, blksLt, List.set, eI]
  generalize hE : evLoop _ _ _ _ _ = E
  obtain ⟨g1, hlen⟩ := H1 _ _ hE (by simp [evCode, evOps, evOne, evOp, evPur, evEff, evPur.chunks, fillP, AOp.isEff, AO.ev, putP, PV.cells, PV.leaf, getB, getM, mapE, keyC, mapRows, mfind, eq1, eqL, scal, binP, unP, minP, maxP, foldP, PV.lt, PV.lt.ltL, endP, expoAll, expo, expo.expoL, frIds, frIds.frIdsL, nodupN, kill, cls, clsFuel, resO, RV.get, loadP, evC_p, evC_s, endS, endT, rowsOf, callP, thinL, unfr, unfr.unfrL, PV.noMem, PV.noMem.noMemL, optI, mapO, norm, trimT, trimB, forget, hasN, blksLt, List.set, S50, eI, inR_nil])
  rw [g1]
  clear hE g1 H1
  generalize List.foldl (putS n) ([], false) l = u at *
  obtain ⟨o, dn⟩ := u
  simp only at key hlen
  have e2 := inR_len o
  have e3 := inR_app o [n]
  have q1 := inR_one n
  have m1 : (o.length + 1) * 8 ≤ 140737488355328 := by omega
  have m2 : o.length + 1 ≤ 140737488355328 := by omega
  cases dn
  · simp only [Bool.false_eq_true, if_false] at key
    rw [← key]
    unfold c50b0
    simp [evCode, evOps, evOne, evOp, evPur, evEff, evPur.chunks, fillP, AOp.isEff, AO.ev, putP, PV.cells, PV.leaf, getB, getM, mapE, keyC, mapRows, mfind, eq1, eqL, scal, binP, unP, minP, maxP, foldP, PV.lt, PV.lt.ltL, endP, expoAll, expo, expo.expoL, frIds, frIds.frIdsL, nodupN, kill, cls, clsFuel, resO, RV.get, loadP, evC_p, evC_s, endS, endT, rowsOf, callP, thinL, unfr, unfr.unfrL, PV.noMem, PV.noMem.noMemL, optI, mapO, norm, trimT, trimB, forget, hasN, blksLt, List.set, S50, eI, e1, e2, e3, q1, m1, m2]
  · simp only [if_true] at key
    rw [← key]
    unfold c50b0
    simp [evCode, evOps, evOne, evOp, evPur, evEff, evPur.chunks, fillP, AOp.isEff, AO.ev, putP, PV.cells, PV.leaf, getB, getM, mapE, keyC, mapRows, mfind, eq1, eqL, scal, binP, unP, minP, maxP, foldP, PV.lt, PV.lt.ltL, endP, expoAll, expo, expo.expoL, frIds, frIds.frIdsL, nodupN, kill, cls, clsFuel, resO, RV.get, loadP, evC_p, evC_s, endS, endT, rowsOf, callP, thinL, unfr, unfr.unfrL, PV.noMem, PV.noMem.noMemL, optI, mapO, norm, trimT, trimB, forget, hasN, blksLt, List.set, S50, eI, e1, e2]

/-- the ends that have been gathered; nothing before the first -/
def pO : Option (List Int) → PV
  | none => .own 1 0 0 0
  | some l => eI l
def endO (o : Option (List Int)) (s : Sp) : Option (List Int) := if vl s then some (insE s.2 (insE s.1 (o.getD []))) else o
theorem endO_fold : ∀ (l : List Sp) (o : Option (List Int)), (l.foldl endO o).getD [] = endsF (o.getD []) l
  | [], o => by unfold endsF; rfl
  | s :: l, o => by
    rw [List.foldl_cons, endO_fold l]
    show _ = endsF (if vl s then insE s.2 (insE s.1 (o.getD [])) else o.getD []) l
    congr 1
    unfold endO
    split <;> rfl
theorem insE_len (n : Int) : ∀ l : List Int, (insE n l).length ≤ l.length + 1
  | [] => by simp [insE]
  | z :: l => by
    have := insE_len n l
    unfold insE
    split
    · split <;> simp
    · simp; omega
def S37 (L : List Sp) (k : Nat) (o : Option (List Int)) : St :=
  ⟨[.top, .top, .top, .top, .top, pO o, .own 2 L.length 0 L.length, .int .i64 k] ++ List.replicate 30 .top, [some ⟨0, 1, true, []⟩, some ⟨0, 1, true, []⟩, some ⟨L.length, 2, true, spRows L⟩]⟩
theorem noMem_in (l : List Int) : PV.noMem.noMemLL (inR l) = true := by
  induction l with
  | nil => rfl
  | cons s l ih => exact ih
def rO : Option (List Int) → PV
  | none => .fr 1 []
  | some l => eI l
set_option maxRecDepth 100000 in
theorem loop37 (L : List Sp) (hL : L.length ≤ 100) (E : Option Out) (s0 : St) (hE : evLoop (evCode (evC Dg) 200 c37b0) [5, 6, 7] 3 200 s0 = E) (h0 : norm [5, 6, 7] 3 s0 = S37 L 0 none) :
    E = evCode (evC Dg) 200 c37b0 (S37 L L.length (L.foldl endO none)) := by
  have e1 := spRows_len L
  have H1 := loop_foldE (body := evCode (evC Dg) 200 c37b0) (keep := [5, 6, 7]) (n0 := 3) (fuel := 200) L (S37 L) endO (fun k o => (o.getD []).length ≤ 2 * k ∧ (o.getD []).Pairwise (· < ·))
    (by
      rintro k s o hs hk ⟨ho, hp⟩
      have hk' : (k : Int) < L.length := by omega
      have w1 := wrap_i64 ((k : Int) + 1) (by omega) (by omega)
      have r1 := spRows_get hs
      have g1 := spRows_got hs
      have c12 := f12 s
      have hp1 := insE_sorted (n := s.1) hp
      have hl1 := insE_len s.1 (o.getD [])
      have hl2 := insE_len s.2 (insE s.1 (o.getD []))
      have p1 := f50 (o.getD []) s.1 (by omega) hp
      have p2 := f50 (insE s.1 (o.getD [])) s.2 (by omega) hp1
      by_cases hv : vl s
      · refine ⟨by simp only [endO, if_pos hv, Option.getD_some]; exact ⟨by omega, insE_sorted hp1⟩, ?_⟩
        obtain ⟨R, hR⟩ := ex_eq (insE s.2 (insE s.1 (o.getD [])))
        obtain ⟨Q, hQ⟩ := ex_eq (insE s.1 (o.getD []))
        rw [hQ] at p1 p2 hR
        rw [hR] at p2
        have nq := noMem_in Q
        simp only [eI] at p1 p2
        unfold c37b0
        cases o with
        | none =>
          simp only [Option.getD_none, inR_nil] at p1 hQ
          simp [evCode, evOps, evOne, evOp, evPur, evEff, evPur.chunks, fillP, AOp.isEff, AO.ev, putP, PV.cells, PV.leaf, getB, getM, mapE, keyC, mapRows, mfind, eq1, eqL, scal, binP, unP, minP, maxP, foldP, PV.lt, PV.lt.ltL, endP, expoAll, expo, expo.expoL, frIds, frIds.frIdsL, nodupN, kill, cls, clsFuel, resO, RV.get, loadP, evC_p, evC_s, endS, endT, rowsOf, callP, thinL, unfr, unfr.unfrL, PV.noMem, PV.noMem.noMemL, optI, mapO, norm, trimT, trimB, forget, hasN, blksLt, List.set, S37, pO, eI, e1, r1, g1, hk, hk', w1, c12, hv, p1, p2, nq, endO, hQ, hR]
        | some G =>
          simp only [Option.getD_some] at p1 hQ
          simp [evCode, evOps, evOne, evOp, evPur, evEff, evPur.chunks, fillP, AOp.isEff, AO.ev, putP, PV.cells, PV.leaf, getB, getM, mapE, keyC, mapRows, mfind, eq1, eqL, scal, binP, unP, minP, maxP, foldP, PV.lt, PV.lt.ltL, endP, expoAll, expo, expo.expoL, frIds, frIds.frIdsL, nodupN, kill, cls, clsFuel, resO, RV.get, loadP, evC_p, evC_s, endS, endT, rowsOf, callP, thinL, unfr, unfr.unfrL, PV.noMem, PV.noMem.noMemL, optI, mapO, norm, trimT, trimB, forget, hasN, blksLt, List.set, S37, pO, eI, e1, r1, g1, hk, hk', w1, c12, hv, p1, p2, nq, endO, hQ, hR]
      · refine ⟨by simp only [endO, if_neg hv]; exact ⟨by omega, hp⟩, ?_⟩
        unfold c37b0
        cases o with
        | none => simp [evCode, evOps, evOne, evOp, evPur, evEff, evPur.chunks, fillP, AOp.isEff, AO.ev, putP, PV.cells, PV.leaf, getB, getM, mapE, keyC, mapRows, mfind, eq1, eqL, scal, binP, unP, minP, maxP, foldP, PV.lt, PV.lt.ltL, endP, expoAll, expo, expo.expoL, frIds, frIds.frIdsL, nodupN, kill, cls, clsFuel, resO, RV.get, loadP, evC_p, evC_s, endS, endT, rowsOf, callP, thinL, unfr, unfr.unfrL, PV.noMem, PV.noMem.noMemL, optI, mapO, norm, trimT, trimB, forget, hasN, blksLt, List.set, S37, pO, eI, e1, r1, g1, hk, hk', w1, c12, hv, endO]
        | some G => simp [evCode, evOps, evOne, evOp, evPur, evEff, evPur.chunks, fillP, AOp.isEff, AO.ev, putP, PV.cells, PV.leaf, getB, getM, mapE, keyC, mapRows, mfind, eq1, eqL, scal, binP, unP, minP, maxP, foldP, PV.lt, PV.lt.ltL, endP, expoAll, expo, expo.expoL, frIds, frIds.frIdsL, nodupN, kill, cls, clsFuel, resO, RV.get, loadP, evC_p, evC_s, endS, endT, rowsOf, callP, thinL, unfr, unfr.unfrL, PV.noMem, PV.noMem.noMemL, optI, mapO, norm, trimT, trimB, forget, hasN, blksLt, List.set, S37, pO, eI, e1, r1, g1, hk, hk', w1, c12, hv, endO])
    (by
      rintro o _ s
      unfold c37b0
      cases o with
      | none => simp [evCode, evOps, evOne, evOp, evPur, evEff, evPur.chunks, fillP, AOp.isEff, AO.ev, putP, PV.cells, PV.leaf, getB, getM, mapE, keyC, mapRows, mfind, eq1, eqL, scal, binP, unP, minP, maxP, foldP, PV.lt, PV.lt.ltL, endP, expoAll, expo, expo.expoL, frIds, frIds.frIdsL, nodupN, kill, cls, clsFuel, resO, RV.get, loadP, evC_p, evC_s, endS, endT, rowsOf, callP, thinL, unfr, unfr.unfrL, PV.noMem, PV.noMem.noMemL, optI, mapO, norm, trimT, trimB, forget, hasN, blksLt, List.set, S37, pO, eI, e1]
      | some G => simp [evCode, evOps, evOne, evOp, evPur, evEff, evPur.chunks, fillP, AOp.isEff, AO.ev, putP, PV.cells, PV.leaf, getB, getM, mapE, keyC, mapRows, mfind, eq1, eqL, scal, binP, unP, minP, maxP, foldP, PV.lt, PV.lt.ltL, endP, expoAll, expo, expo.expoL, frIds, frIds.frIdsL, nodupN, kill, cls, clsFuel, resO, RV.get, loadP, evC_p, evC_s, endS, endT, rowsOf, callP, thinL, unfr, unfr.unfrL, PV.noMem, PV.noMem.noMemL, optI, mapO, norm, trimT, trimB, forget, hasN, blksLt, List.set, S37, pO, eI, e1])
    (by omega) none (by simp)
  exact (H1 s0 E hE h0).1
set_option maxRecDepth 100000 in
theorem f37 (x y : Bool) (a b : List Sp) (ha : a.length ≤ 25) (hb : b.length ≤ 25) : evE Dg 37 [eS x a, eS y b] = some (rO ((a ++ b).foldl endO none)) := by
  have T := loop37 (a ++ b) (by simp; omega)
  obtain ⟨o, ho⟩ := ex_eq ((a ++ b).foldl endO none)
  rw [ho] at T ⊢
  have e1 := spRows_len a
  have e2 := spRows_len b
  have e3 := spRows_app a b
  have m1 : a.length * 16 ≤ 140737488355328 := by omega
  have m2 : a.length ≤ 140737488355328 := by omega
  have m3 : (a.length + b.length) * 16 ≤ 140737488355328 := by omega
  have m4 : a.length + b.length ≤ 140737488355328 := by omega
  refine evE_intro 200 D37 rfl ?_
  unfold c37
  simp [evCode, evOps, evOne, evOp, evPur, evEff, evPur.chunks, fillP, AOp.isEff, AO.ev, putP, PV.cells, PV.leaf, getB, getM, mapE, keyC, mapRows, mfind, eq1, eqL, scal, binP, unP, minP, maxP, foldP, PV.lt, PV.lt.ltL, endP, expoAll, expo, expo.expoL, frIds, frIds.frIdsL, nodupN, kill, cls, clsFuel, resO, RV.get, loadP, evC_p, evC_s, endS, endT, rowsOf, callP, thinL, unfr, unfr.unfrL, PV.noMem, PV.noMem.noMemL, optI, mapO, norm, trimT, trimB, forget, hasN, blksLt, List.set, eS, e1, e2, m1, m2, m3, m4, spRows_lt']
  generalize hE : evLoop _ _ _ _ _ = E
  have g := T _ _ hE (by simp [evCode, evOps, evOne, evOp, evPur, evEff, evPur.chunks, fillP, AOp.isEff, AO.ev, putP, PV.cells, PV.leaf, getB, getM, mapE, keyC, mapRows, mfind, eq1, eqL, scal, binP, unP, minP, maxP, foldP, PV.lt, PV.lt.ltL, endP, expoAll, expo, expo.expoL, frIds, frIds.frIdsL, nodupN, kill, cls, clsFuel, resO, RV.get, loadP, evC_p, evC_s, endS, endT, rowsOf, callP, thinL, unfr, unfr.unfrL, PV.noMem, PV.noMem.noMemL, optI, mapO, norm, trimT, trimB, forget, hasN, blksLt, List.set, S37, pO, e3, spRows_lt'])
  rw [g]
  clear hE g T
  unfold c37b0
  cases o with
  | none => simp [evCode, evOps, evOne, evOp, evPur, evEff, evPur.chunks, fillP, AOp.isEff, AO.ev, putP, PV.cells, PV.leaf, getB, getM, mapE, keyC, mapRows, mfind, eq1, eqL, scal, binP, unP, minP, maxP, foldP, PV.lt, PV.lt.ltL, endP, expoAll, expo, expo.expoL, frIds, frIds.frIdsL, nodupN, kill, cls, clsFuel, resO, RV.get, loadP, evC_p, evC_s, endS, endT, rowsOf, callP, thinL, unfr, unfr.unfrL, PV.noMem, PV.noMem.noMemL, optI, mapO, norm, trimT, trimB, forget, hasN, blksLt, List.set, S37, pO, rO, eI, e1, e2, e3]
  | some G => simp [evCode, evOps, evOne, evOp, evPur, evEff, evPur.chunks, fillP, AOp.isEff, AO.ev, putP, PV.cells, PV.leaf, getB, getM, mapE, keyC, mapRows, mfind, eq1, eqL, scal, binP, unP, minP, maxP, foldP, PV.lt, PV.lt.ltL, endP, expoAll, expo, expo.expoL, frIds, frIds.frIdsL, nodupN, kill, cls, clsFuel, resO, RV.get, loadP, evC_p, evC_s, endS, endT, rowsOf, callP, thinL, unfr, unfr.unfrL, PV.noMem, PV.noMem.noMemL, optI, mapO, norm, trimT, trimB, forget, hasN, blksLt, List.set, S37, pO, rO, eI, e1, e2, e3]
set_option maxRecDepth 100000 in
theorem f37n (x : Bool) (a : List Sp) (ha : a.length ≤ 25) : evE Dg 37 [eS x a, .nilS] = some (rO (a.foldl endO none)) := by
  have T := loop37 a (by omega)
  obtain ⟨o, ho⟩ := ex_eq (a.foldl endO none)
  rw [ho] at T ⊢
  have e1 := spRows_len a
  have m1 : a.length * 16 ≤ 140737488355328 := by omega
  have m2 : a.length ≤ 140737488355328 := by omega
  refine evE_intro 200 D37 rfl ?_
  unfold c37
  simp [evCode, evOps, evOne, evOp, evPur, evEff, evPur.chunks, fillP, AOp.isEff, AO.ev, putP, PV.cells, PV.leaf, getB, getM, mapE, keyC, mapRows, mfind, eq1, eqL, scal, binP, unP, minP, maxP, foldP, PV.lt, PV.lt.ltL, endP, expoAll, expo, expo.expoL, frIds, frIds.frIdsL, nodupN, kill, cls, clsFuel, resO, RV.get, loadP, evC_p, evC_s, endS, endT, rowsOf, callP, thinL, unfr, unfr.unfrL, PV.noMem, PV.noMem.noMemL, optI, mapO, norm, trimT, trimB, forget, hasN, blksLt, List.set, eS, e1, m1, m2, spRows_lt']
  generalize hE : evLoop _ _ _ _ _ = E
  have g := T _ _ hE (by simp [evCode, evOps, evOne, evOp, evPur, evEff, evPur.chunks, fillP, AOp.isEff, AO.ev, putP, PV.cells, PV.leaf, getB, getM, mapE, keyC, mapRows, mfind, eq1, eqL, scal, binP, unP, minP, maxP, foldP, PV.lt, PV.lt.ltL, endP, expoAll, expo, expo.expoL, frIds, frIds.frIdsL, nodupN, kill, cls, clsFuel, resO, RV.get, loadP, evC_p, evC_s, endS, endT, rowsOf, callP, thinL, unfr, unfr.unfrL, PV.noMem, PV.noMem.noMemL, optI, mapO, norm, trimT, trimB, forget, hasN, blksLt, List.set, S37, pO, spRows_lt'])
  rw [g]
  clear hE g T
  unfold c37b0
  cases o with
  | none => simp [evCode, evOps, evOne, evOp, evPur, evEff, evPur.chunks, fillP, AOp.isEff, AO.ev, putP, PV.cells, PV.leaf, getB, getM, mapE, keyC, mapRows, mfind, eq1, eqL, scal, binP, unP, minP, maxP, foldP, PV.lt, PV.lt.ltL, endP, expoAll, expo, expo.expoL, frIds, frIds.frIdsL, nodupN, kill, cls, clsFuel, resO, RV.get, loadP, evC_p, evC_s, endS, endT, rowsOf, callP, thinL, unfr, unfr.unfrL, PV.noMem, PV.noMem.noMemL, optI, mapO, norm, trimT, trimB, forget, hasN, blksLt, List.set, S37, pO, rO, eI, e1]
  | some G => simp [evCode, evOps, evOne, evOp, evPur, evEff, evPur.chunks, fillP, AOp.isEff, AO.ev, putP, PV.cells, PV.leaf, getB, getM, mapE, keyC, mapRows, mfind, eq1, eqL, scal, binP, unP, minP, maxP, foldP, PV.lt, PV.lt.ltL, endP, expoAll, expo, expo.expoL, frIds, frIds.frIdsL, nodupN, kill, cls, clsFuel, resO, RV.get, loadP, evC_p, evC_s, endS, endT, rowsOf, callP, thinL, unfr, unfr.unfrL, PV.noMem, PV.noMem.noMemL, optI, mapO, norm, trimT, trimB, forget, hasN, blksLt, List.set, S37, pO, rO, eI, e1]
end Go.Proofs.Ytildbjepbnjbfaa
