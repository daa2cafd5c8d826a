/- itree: the reference's order. -/
import Derived.Test.YtkodjmlhmpokoaaItA
namespace Go.Proofs.Ytkodjmlhmpokoaa
open Go Go.RowKit
set_option linter.unusedVariables false
set_option linter.unusedSimpArgs false
set_option maxHeartbeats 4000000

/-- nothing is cut when a slot needs the last block -/
theorem norm_top {keep : List Nat} {n0 b : Nat} {sl : List PV} {bl : Blks} (hb : bl.length ≤ b + 1) (h : ∀ t, t ≤ b → PV.lt.ltL t (forget keep 0 sl) = false) : norm keep n0 ⟨sl, bl⟩ = ⟨forget keep 0 sl, bl⟩ := by
  unfold norm trimB
  simp only
  generalize trimT (forget keep 0 sl) bl (bl.length - n0) n0 = t
  split
  · rename_i hc
    have h1 : PV.lt.ltL t (forget keep 0 sl) = true := by
      cases hq : PV.lt.ltL t (forget keep 0 sl) with
      | true => rfl
      | false => rw [hq] at hc; simp at hc
    have h2 : b < t := by
      rcases Nat.lt_or_ge b t with h2 | h2
      · exact h2
      · rw [h t h2] at h1; cases h1
    rw [List.take_of_length_le (by omega)]
  · rfl
def NormTo (keep : List Nat) (n0 : Nat) (s' s : St) : Prop := norm keep n0 s = s'
theorem NormTo.mk {keep : List Nat} {n0 : Nat} {body : Option Out} {s' : St} (h : ∃ s, body = some (.normal s) ∧ NormTo keep n0 s' s) : ∃ s, body = some (.normal s) ∧ norm keep n0 s = s' := h

def bef (l : List Sp) (i j : Nat) : Bool := match l[i]?, l[j]? with
  | some s, some t => ltB i j s t
  | _, _ => false
theorem f40' (x : Bool) (l : List Sp) (i j : Nat) (hi : i < l.length) (hj : j < l.length) : evE Dg 40 [eS x l, .int .i64 i, .int .i64 j] = some (.bool (bef l i j)) := by
  have h1 : l[i]? = some l[i] := List.getElem?_eq_getElem hi
  have h2 : l[j]? = some l[j] := List.getElem?_eq_getElem hj
  rw [f40 x l i j _ _ h1 h2]
  unfold bef
  rw [h1, h2]
/-- where a place is put in -/
def insP (q : Nat → Bool) : Nat → Nat
  | 0 => 0
  | n + 1 => if q n then insP q n else n + 1
theorem insP_le (q : Nat → Bool) : ∀ n, insP q n ≤ n
  | 0 => Nat.le_refl _
  | n + 1 => by
    unfold insP
    split
    · have := insP_le q n; omega
    · omega
def nR (o : List Nat) : List (List PV) := o.map fun (i : Nat) => [.int .i64 (i : Int)]
theorem nR_len (o : List Nat) : (nR o).length = o.length := by simp [nR]
theorem nR_get {o : List Nat} {k : Nat} {z : Nat} (h : o[k]? = some z) : (nR o)[k]? = some [.int .i64 (z : Int)] := by simp [nR, h]
theorem nR_got {o : List Nat} {k : Nat} {z : Nat} (h : o[k]? = some z) : ∀ q, (nR o)[k]'q = [.int .i64 (z : Int)] := fun q => by
  have := nR_get h
  rw [List.getElem?_eq_getElem q] at this
  exact Option.some.inj this
theorem nR_take (o : List Nat) (n : Nat) : (nR o).take n = nR (o.take n) := by simp [nR, List.map_take]
theorem nR_drop (o : List Nat) (n : Nat) : (nR o).drop n = nR (o.drop n) := by simp [nR, List.map_drop]
theorem nR_app (a b : List Nat) : nR a ++ nR b = nR (a ++ b) := by simp [nR]
theorem nR_one (i : Nat) : [[PV.int .i64 (i : Int)]] = nR [i] := rfl
/-- the state of the inner loop -/
def S28i (x : Bool) (l : List Sp) (bl : Blks) (k j : Nat) : St := ⟨[eS x l, .top, .top, .own (k + 1) k 0 k, .int .i64 k, .int .i64 j] ++ List.replicate 38 .top, bl⟩
def R28 (x : Bool) (l : List Sp) (bl : Blks) (k p : Nat) (o : Out) : Prop := ∃ z15 z16 z17 z18 z19 z20 z21 z22 z23 z24 z25 z26, o = .exit 2 ⟨[eS x l, .top, .top, .own (k + 1) k 0 k, .int .i64 k, .int .i64 p, .top, .top, .top, .top, .top, .top, .top, .top, .top, z15, z16, z17, z18, z19, z20, z21, z22, z23, z24, z25, z26] ++ List.replicate 17 .top, bl⟩
def qB (l : List Sp) (o : List Nat) (k j : Nat) : Bool := match o[j]? with
  | some i => bef l k i
  | none => false
set_option maxRecDepth 100000 in
theorem loop28 (x : Bool) (l : List Sp) (bl : Blks) (o : List Nat) (k fu n0 fuel : Nat) (hk : k < l.length) (hl : l.length ≤ 1000000) (ho : o.length = k) (hm : ∀ i ∈ o, i < l.length) (hbl : bl.length = k + 2) (hb : bl[k + 1]? = some (some ⟨k, 1, true, nR o⟩)) (hf : k < fuel) :
    ∀ s0 E, evLoop (evCode (evC Dg) fu c28b0) [0, 3, 4, 5] n0 fuel s0 = E → norm [0, 3, 4, 5] n0 s0 = S28i x l bl k k → ∃ out, E = some out ∧ R28 x l bl k (insP (qB l o k) k) out := by
  intro s0 E hE h0
  have H := loop_while (body := evCode (evC Dg) fu c28b0) (keep := [0, 3, 4, 5]) (n0 := n0) (fuel := fuel) (fun j => S28i x l bl k j) (fun j => j) (fun j => j ≤ k ∧ insP (qB l o k) k = insP (qB l o k) j) (R28 x l bl k (insP (qB l o k) k))
    (by
      rintro j ⟨hj, hI⟩
      cases j with
      | zero =>
        right
        rw [hI]
        unfold insP c28b0
        simp [evCode, evOps, evOne, evOp, evPur, evEff, evPur.chunks, fillP, AOp.isEff, AO.ev, putP, PV.cells, PV.leaf, getB, getM, mapE, iterE, keyC, mapRows, mfind, eq1, eqL, scal, binP, unP, minP, maxP, foldP, PV.lt, PV.lt.ltL, endP, expoAll, expoG, expo, expo.expoL, frIds, frIds.frIdsL, nodupN, kill, cls, clsFuel, resO, RV.get, loadP, evC_p, evC_s, endS, endT, rowsOf, callP, thinL, unfr, unfr.unfrL, PV.noMem, PV.noMem.noMemL, optI, mapO, norm, trimT, trimB, forget, hasN, blksLt, List.set, softChk, softGo, softRd, effTg, rdP, S28i, R28]
      | succ j =>
        have hoj : o[j]? = some o[j] := List.getElem?_eq_getElem (by omega)
        have hjl : o[j] < l.length := hm _ (List.getElem_mem _)
        have hc := f40' x l k (o[j]) hk hjl
        have hq : qB l o k j = bef l k (o[j]) := by unfold qB; rw [hoj]
        generalize o[j] = z at *
        have w1 : IntKind.i64.wrap (((j + 1 : Nat) : Int) - 1) = j := by rw [wrap_i64 _ (by omega) (by omega)]; omega
        have w2 : IntKind.i64.wrap ((j : Int) + 1 - 1) = j := by rw [wrap_i64 _ (by omega) (by omega)]; omega
        have w3 : IntKind.i64.wrap (j : Int) = j := wrap_i64 _ (by omega) (by omega)
        have r1 := nR_get hoj
        have g1 := nR_got hoj
        have eL := nR_len o
        have hjk : j < k := by omega
        have hjk' : (j : Int) < k := by omega
        have hp : (0 : Int) < (j : Int) + 1 := by omega
        simp only [eS] at hc
        cases hz : bef l k z with
        | true =>
          left
          rw [hz] at hc hq
          refine ⟨j, ?_⟩
          have J : j ≤ k ∧ insP (qB l o k) k = insP (qB l o k) j := ⟨by omega, by rw [hI]; simp [insP, hq]⟩
          refine (fun ⟨s', q1, q2⟩ => ⟨s', q1, q2, J, Nat.lt_succ_self j⟩ : (∃ s', _ ∧ _) → _) ?_
          apply NormTo.mk
          unfold c28b0
          simp [evCode, evOps, evOne, evOp, evPur, evEff, evPur.chunks, fillP, AOp.isEff, AO.ev, putP, PV.cells, PV.leaf, getB, getM, mapE, iterE, keyC, mapRows, mfind, eq1, eqL, scal, binP, unP, minP, maxP, foldP, PV.lt, PV.lt.ltL, endP, expoAll, expoG, expo, expo.expoL, frIds, frIds.frIdsL, nodupN, kill, cls, clsFuel, resO, RV.get, loadP, evC_p, evC_s, endS, endT, rowsOf, callP, thinL, unfr, unfr.unfrL, PV.noMem, PV.noMem.noMemL, optI, mapO, norm, trimT, trimB, forget, hasN, blksLt, List.set, softChk, softGo, softRd, effTg, rdP, S28i, eS, hb, eL, ho, r1, g1, w1, w2, w3, hjk, hjk', hp, hc]
          unfold NormTo
          rw [norm_top (b := k + 1) (by omega) (fun t ht => by
            have h9 : Nat.blt (k + 1) t = false := by
              cases hh : Nat.blt (k + 1) t with
              | false => rfl
              | true => have := Nat.blt_eq ▸ hh; have : k + 1 < t := by simpa [Nat.blt_eq] using hh
                        omega
            simp [forget, hasN, PV.lt.ltL, PV.lt, h9])]
          simp [forget, hasN]
        | false =>
          right
          rw [hz] at hc hq
          rw [hI]
          have : insP (qB l o k) (j + 1) = j + 1 := by simp [insP, hq]
          rw [this]
          unfold c28b0
          simp [evCode, evOps, evOne, evOp, evPur, evEff, evPur.chunks, fillP, AOp.isEff, AO.ev, putP, PV.cells, PV.leaf, getB, getM, mapE, iterE, keyC, mapRows, mfind, eq1, eqL, scal, binP, unP, minP, maxP, foldP, PV.lt, PV.lt.ltL, endP, expoAll, expoG, expo, expo.expoL, frIds, frIds.frIdsL, nodupN, kill, cls, clsFuel, resO, RV.get, loadP, evC_p, evC_s, endS, endT, rowsOf, callP, thinL, unfr, unfr.unfrL, PV.noMem, PV.noMem.noMemL, optI, mapO, norm, trimT, trimB, forget, hasN, blksLt, List.set, softChk, softGo, softRd, effTg, rdP, S28i, R28, eS, hb, eL, ho, r1, g1, w1, w2, w3, hjk, hjk', hp, hc])
    k ⟨Nat.le_refl _, rfl⟩ hf s0 E hE h0
  exact H
theorem nR_flat (o : List Nat) : (nR o).all (PV.lt.ltL 0) = true := by
  rw [List.all_eq_true]
  intro r hr
  simp only [nR, List.mem_map] at hr
  obtain ⟨z, _, rfl⟩ := hr
  rfl
/-- one place more, and all of them -/
def insN (l : List Sp) (o : List Nat) (k : Nat) : List Nat := o.take (insP (qB l o k) k) ++ [k] ++ o.drop (insP (qB l o k) k)
def ordN (l : List Sp) : Nat → List Nat
  | 0 => []
  | k + 1 => insN l (ordN l k) k
theorem ordN_ok (l : List Sp) : ∀ k, (ordN l k).length = k ∧ ∀ i ∈ ordN l k, i < k
  | 0 => ⟨rfl, by simp [ordN]⟩
  | k + 1 => by
    obtain ⟨h1, h2⟩ := ordN_ok l k
    have h3 := insP_le (qB l (ordN l k) k) k
    unfold ordN insN
    refine ⟨by simp [h1]; omega, fun i hi => ?_⟩
    simp only [List.mem_append, List.mem_singleton] at hi
    rcases hi with (hi | hi) | hi
    · have := h2 i (List.mem_of_mem_take hi); omega
    · omega
    · have := h2 i (List.mem_of_mem_drop hi); omega
def S28 (x : Bool) (l : List Sp) (k : Nat) (bl : Blks) : St := ⟨[eS x l, .top, .top, .own (k + 1) k 0 k, .int .i64 k] ++ List.replicate 39 .top, bl⟩
def I28 (l : List Sp) (k : Nat) (bl : Blks) : Prop := bl.length = k + 2 ∧ bl[k + 1]? = some (some ⟨k, 1, true, nR (ordN l k)⟩)
set_option maxRecDepth 100000 in
theorem f28 (x : Bool) (l : List Sp) (hl : l.length ≤ 1000000) : evE Dg 28 [eS x l] = some (.fr 1 (nR (ordN l l.length))) := by
  have e1 := spRows_len l
  have H := loop_inv (body := evCode (evC Dg) (l.length + 1) c28b1) (keep := [0, 3, 4]) (n0 := 2) (fuel := l.length + 1) l (S28 x l) (I28 l) (fun _ => False)
    (by
      rintro k a bl ha hk ⟨hbl, hb⟩
      left
      obtain ⟨ho, hm⟩ := ordN_ok l k
      have hO : ordN l (k + 1) = insN l (ordN l k) k := rfl
      have eL := nR_len (ordN l k)
      generalize ordN l k = o at *
      have hp := insP_le (qB l o k) k
      have hI := loop28 x l bl o k (l.length + 1) (k + 2) (l.length + 1) hk hl ho (fun i hi => by have := hm i hi; omega) hbl hb (by omega)
      have hT : insN l o k = o.take (insP (qB l o k) k) ++ [k] ++ o.drop (insP (qB l o k) k) := rfl
      generalize insP (qB l o k) k = p at *
      have hk' : (k : Int) < l.length := by omega
      have hA : ∀ y, (bl ++ [y])[k + 2]? = some y := fun y => by rw [← hbl]; simp
      have hB : ∀ y, (bl ++ [y])[k + 1]? = some (some ⟨k, 1, true, nR o⟩) := fun y => by rw [List.getElem?_append_left (by omega)]; exact hb
      have hbg : ∀ q, bl[k + 1]'q = some ⟨k, 1, true, nR o⟩ := fun q => by
        have hb2 := hb
        rw [List.getElem?_eq_getElem q] at hb2
        exact Option.some.inj hb2
      have hAg : ∀ y q, (bl ++ [y])[k + 2]'q = y := fun y q => by
        have := hA y
        rw [List.getElem?_eq_getElem q] at this
        exact Option.some.inj this
      have hBg : ∀ y q, (bl ++ [y])[k + 1]'q = some ⟨k, 1, true, nR o⟩ := fun y q => by
        have := hB y
        rw [List.getElem?_eq_getElem q] at this
        exact Option.some.inj this
      have hS : ∀ y z, (bl ++ [y]).set (k + 2) z = bl ++ [z] := fun y z => by rw [← hbl]; simp
      have hL : ∀ y : Option Blk, (bl ++ [y]).length = k + 3 := fun y => by simp [hbl]
      have w1 := wrap_i64 ((k : Int) + 1) (by omega) (by omega)
      have tk := nR_take o p
      have dp := nR_drop o p
      have pk : (p : Int) ≤ k := by omega
      have tl : (o.take p).length = p := by simp; omega
      have dl : (o.drop p).length = k - p := by simp; omega
      refine ⟨bl ++ [some ⟨k + 1, 1, true, nR (insN l o k)⟩], ?_⟩
      have J : I28 l (k + 1) (bl ++ [some ⟨k + 1, 1, true, nR (insN l o k)⟩]) := ⟨by simp [hbl], by rw [hO]; exact hA _⟩
      refine (fun ⟨s', q1, q2⟩ => ⟨s', q1, q2, J⟩ : (∃ s', _ ∧ _) → _) ?_
      apply NormTo.mk
      unfold c28b1
      simp [evCode, evOps, evOne, evOp, evPur, evEff, evPur.chunks, fillP, AOp.isEff, AO.ev, putP, PV.cells, PV.leaf, getB, getM, mapE, iterE, keyC, mapRows, mfind, eq1, eqL, scal, binP, unP, minP, maxP, foldP, PV.lt, PV.lt.ltL, endP, expoAll, expoG, expo, expo.expoL, frIds, frIds.frIdsL, nodupN, kill, cls, clsFuel, resO, RV.get, loadP, evC_p, evC_s, endS, endT, rowsOf, callP, thinL, unfr, unfr.unfrL, PV.noMem, PV.noMem.noMemL, optI, mapO, norm, trimT, trimB, forget, hasN, blksLt, List.set, softChk, softGo, softRd, effTg, rdP, S28, eS, e1, hk', hb, hbg, hbl, eL, ho]
      generalize hE : evLoop _ _ _ _ _ = E
      have hI2 := hI _ E hE
      refine ?_
      obtain ⟨out, rfl, z15, z16, z17, z18, z19, z20, z21, z22, z23, z24, z25, z26, rfl⟩ := hI2 (by
        rw [norm_top (b := k + 1) (by omega) (fun t ht => by
          have h9 : Nat.blt (k + 1) t = false := by
            cases hh : Nat.blt (k + 1) t with
            | false => rfl
            | true => have : k + 1 < t := by simpa [Nat.blt_eq] using hh
                      omega
          simp [forget, hasN, PV.lt.ltL, PV.lt, h9])]
        simp [forget, hasN, S28i, eS])
      have tL : (nR (o.take p)).length = p := by rw [nR_len, tl]
      have dL : (nR (o.drop p)).length = k - p := by rw [nR_len, dl]
      have fT := nR_flat (o.take p)
      have fD := nR_flat (o.drop p)
      have b1 : p * 8 ≤ 140737488355328 := by omega
      have b2 : p ≤ 140737488355328 := by omega
      have b3 : (p + 1) * 8 ≤ 140737488355328 := by omega
      have b4 : p + 1 ≤ 140737488355328 := by omega
      have b5 : (k + 1) * 8 ≤ 140737488355328 := by omega
      have b6 : k + 1 ≤ 140737488355328 := by omega
      have sp1 : p + 1 + (k - p) = k + 1 := by omega
      have sp2 : p + (k - p) = k := by omega
      simp [evCode, evOps, evOne, evOp, evPur, evEff, evPur.chunks, fillP, AOp.isEff, AO.ev, putP, PV.cells, PV.leaf, getB, getM, mapE, iterE, keyC, mapRows, mfind, eq1, eqL, scal, binP, unP, minP, maxP, foldP, PV.lt, PV.lt.ltL, endP, expoAll, expoG, expo, expo.expoL, frIds, frIds.frIdsL, nodupN, kill, cls, clsFuel, resO, RV.get, loadP, evC_p, evC_s, endS, endT, rowsOf, callP, thinL, unfr, unfr.unfrL, PV.noMem, PV.noMem.noMemL, optI, mapO, norm, trimT, trimB, forget, hasN, blksLt, List.set, softChk, softGo, softRd, effTg, rdP, hp, tL, dL, fT, fD, b1, b2, b3, b4, b5, b6, sp1, sp2, hA, hB, hAg, hBg, hS, hL, hb, hbg, hbl, eL, ho, tk, dp, tl, dl, pk, w1]
      have tt : List.take (k - p) (nR (List.drop p o)) = nR (List.drop p o) := List.take_of_length_le (by rw [dL]; exact Nat.le_refl _)
      unfold NormTo
      rw [norm_top (b := k + 2) (by simp [hbl]) (fun t ht => by
        have h9 : Nat.blt (k + 2) t = false := by
          cases hh : Nat.blt (k + 2) t with
          | false => rfl
          | true => have : k + 2 < t := by simpa [Nat.blt_eq] using hh
                    omega
        simp [forget, hasN, PV.lt.ltL, PV.lt, h9])]
      rw [tt, fD, hT]
      simp [forget, hasN, eS, nR])
    (by
      rintro bl ⟨hbl, hb⟩ s
      unfold c28b1
      simp [evCode, evOps, evOne, evOp, evPur, evEff, evPur.chunks, fillP, AOp.isEff, AO.ev, putP, PV.cells, PV.leaf, getB, getM, mapE, iterE, keyC, mapRows, mfind, eq1, eqL, scal, binP, unP, minP, maxP, foldP, PV.lt, PV.lt.ltL, endP, expoAll, expoG, expo, expo.expoL, frIds, frIds.frIdsL, nodupN, kill, cls, clsFuel, resO, RV.get, loadP, evC_p, evC_s, endS, endT, rowsOf, callP, thinL, unfr, unfr.unfrL, PV.noMem, PV.noMem.noMemL, optI, mapO, norm, trimT, trimB, forget, hasN, blksLt, List.set, softChk, softGo, softRd, effTg, rdP, S28, eS, e1])
    (by omega) [some ⟨0, 1, true, []⟩, some ⟨0, 1, true, []⟩] ⟨rfl, rfl⟩
  refine evE_intro (l.length + 1) D28 rfl ?_
  unfold c28
  simp [evCode, evOps, evOne, evOp, evPur, evEff, evPur.chunks, fillP, AOp.isEff, AO.ev, putP, PV.cells, PV.leaf, getB, getM, mapE, iterE, keyC, mapRows, mfind, eq1, eqL, scal, binP, unP, minP, maxP, foldP, PV.lt, PV.lt.ltL, endP, expoAll, expoG, expo, expo.expoL, frIds, frIds.frIdsL, nodupN, kill, cls, clsFuel, resO, RV.get, loadP, evC_p, evC_s, endS, endT, rowsOf, callP, thinL, unfr, unfr.unfrL, PV.noMem, PV.noMem.noMemL, optI, mapO, norm, trimT, trimB, forget, hasN, blksLt, List.set, softChk, softGo, softRd, effTg, rdP, eS, e1]
  generalize hE : evLoop _ _ _ _ _ = E
  rcases H _ _ hE (by simp [evCode, evOps, evOne, evOp, evPur, evEff, evPur.chunks, fillP, AOp.isEff, AO.ev, putP, PV.cells, PV.leaf, getB, getM, mapE, iterE, keyC, mapRows, mfind, eq1, eqL, scal, binP, unP, minP, maxP, foldP, PV.lt, PV.lt.ltL, endP, expoAll, expoG, expo, expo.expoL, frIds, frIds.frIdsL, nodupN, kill, cls, clsFuel, resO, RV.get, loadP, evC_p, evC_s, endS, endT, rowsOf, callP, thinL, unfr, unfr.unfrL, PV.noMem, PV.noMem.noMemL, optI, mapO, norm, trimT, trimB, forget, hasN, blksLt, List.set, softChk, softGo, softRd, effTg, rdP, S28, eS]) with ⟨bl, ⟨hbl, hb⟩, q2⟩ | ⟨s, _, q3⟩
  · rw [q2]
    obtain ⟨ho, hm⟩ := ordN_ok l l.length
    have eL := nR_len (ordN l l.length)
    unfold c28b1
    have hbg : ∀ q, bl[l.length + 1]'q = some ⟨l.length, 1, true, nR (ordN l l.length)⟩ := fun q => by
      rw [List.getElem?_eq_getElem q] at hb
      exact Option.some.inj hb
    simp [evCode, evOps, evOne, evOp, evPur, evEff, evPur.chunks, fillP, AOp.isEff, AO.ev, putP, PV.cells, PV.leaf, getB, getM, mapE, iterE, keyC, mapRows, mfind, eq1, eqL, scal, binP, unP, minP, maxP, foldP, PV.lt, PV.lt.ltL, endP, expoAll, expoG, expo, expo.expoL, frIds, frIds.frIdsL, nodupN, kill, cls, clsFuel, resO, RV.get, loadP, evC_p, evC_s, endS, endT, rowsOf, callP, thinL, unfr, unfr.unfrL, PV.noMem, PV.noMem.noMemL, optI, mapO, norm, trimT, trimB, forget, hasN, blksLt, List.set, softChk, softGo, softRd, effTg, rdP, S28, eS, e1, hb, hbg, hbl, eL, ho]
  · exact q3.elim
end Go.Proofs.Ytkodjmlhmpokoaa
