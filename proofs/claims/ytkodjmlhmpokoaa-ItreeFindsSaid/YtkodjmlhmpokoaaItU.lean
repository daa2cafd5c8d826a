/- itree: Overlap, Stab and Visits, the program's and the reference's. -/
import Derived.Test.YtkodjmlhmpokoaaItT
namespace Go.Proofs.Ytkodjmlhmpokoaa
open Go Go.RowKit
set_option linter.unusedVariables false
set_option linter.unusedSimpArgs false
set_option maxHeartbeats 4000000

def resD (d : List Nat) : PV := match d with
  | [] => .nilS
  | _ :: _ => .fr 1 (nR d)
def castL (d : List Nat) : List Int := d.map fun (i : Nat) => (i : Int)
theorem nR_int (d : List Nat) : nR d = intRows (castL d) := by simp [nR, intRows, castL]
theorem comL_sorted (l : List Sp) (s : Sp) : (comL l s).Pairwise (· < ·) := by
  unfold comL
  exact List.Pairwise.filter _ List.pairwise_lt_range
theorem sort_com (l : List Sp) (s : Sp) {d : List Nat} (h : d.Perm (comL l s)) : sortZ (castL d) = castL (comL l s) := by
  refine List.Perm.eq_of_pairwise (le := fun a b => decide (a ≤ b) = true) (fun a b _ _ h1 h2 => by simp only [decide_eq_true_eq] at h1 h2; omega) (sortZ_sorted _) ?_ ((sortZ_perm _).trans (h.map _))
  unfold castL
  rw [List.pairwise_map]
  exact (comL_sorted l s).imp fun h => by simp; omega
theorem x32_nil (bl : Blks) : evS Dg 32 [.nilS] bl = some (.tup [], bl) := evS_ext D32 rfl rfl
theorem x32_own (c : Nat) (d : List Nat) (bl : Blks) (hb : bl[c]? = some (some ⟨d.length, 1, true, nR d⟩)) (h0 : 0 < d.length) (hl : d.length < 1000000) : evS Dg 32 [.own c d.length 0 d.length] bl = some (.tup [], bl.set c (some ⟨d.length, 1, true, intRows (sortZ (castL d))⟩)) := by
  refine evS_ext D32 rfl ?_
  have e := nR_len d
  have h1 : ¬ d.length = 0 := by omega
  have hz : intsOf (nR d) = some (castL d) := by rw [nR_int]; exact intsOf_rows _
  unfold xSort
  have hg : getB bl c d.length = some ⟨d.length, 1, true, nR d⟩ := by
    unfold getB
    rw [hb]
    simp [mapE]
  simp only [hg]
  rw [if_neg (fun h => h1 h.1), if_pos (by refine ⟨?_, ?_, ?_, h0, hl⟩ <;> first | trivial | rfl | exact e.symm), hz]
set_option maxRecDepth 100000 in
theorem f15_true (x a b : Bool) (l : List Sp) (s : Sp) (hl : l.length < 1000000) :
    evE Dg 15 [eS x l, .agg [eI a (ordI l), eI b (mostP l)], vS s] = some (resD (comL l s)) := by
  obtain ⟨bl', q, L, I⟩ := f31_true x a b l s hl [bxX a b (ordI l) (mostP l), bxS s, some ⟨0, 1, true, []⟩]
  have hp := exf_perm l s
  have hle := exf_le l s l.length 0 l.length
  have hve := exv_le l s l.length 0 l.length (by omega)
  generalize exf l s l.length 0 l.length = d at *
  generalize exv l s l.length 0 l.length = v at *
  have hS := sort_com l s hp
  have hlen := hp.length_eq
  have hb0 : ∀ b, Nat.blt b 0 = false := fun b => by cases b <;> rfl
  simp only [List.length_cons, List.length_nil] at q L I
  have L' : 3 ≤ bl'.length := L
  simp only [eI, eS, vS, bxX, bxS] at q
  refine evE_intro 1 D15 rfl ?_
  unfold c15
  rcases I with ⟨hd, hb⟩ | ⟨c, hc, hb1, hb⟩
  · have hbg := got_of hb
    have hC : comL l s = [] := List.length_eq_zero_iff.1 (by rw [← hlen, hd]; rfl)
    have h32 := x32_nil bl'
    have el := (List.getElem?_eq_some_iff.1 hb).1
    rw [hC]
    simp [evCode, evOps, evOne, evOp, evPur, evEff, evPur.chunks, fillP, AOp.isEff, AO.ev, putP, PV.cells, PV.leaf, getB, getM, mapE, iterE, keyC, mapRows, mfind, eq1, eqL, scal, binP, unP, minP, maxP, foldP, PV.lt, PV.lt.ltL, endP, expoAll, expoG, expo, expo.expoL, frIds, frIds.frIdsL, nodupN, kill, cls, clsFuel, resO, RV.get, loadP, evC_p, evC_s, endS, endT, rowsOf, callP, thinL, unfr, unfr.unfrL, PV.noMem, PV.noMem.noMemL, optI, mapO, norm, trimT, trimB, forget, hasN, blksLt, List.set, softChk, softGo, softRd, effTg, rdP, eI, eS, vS, q, L', hb, hbg, el, ob, h32, resD, hb0]
  · have hbg := got_of hb
    have el := (List.getElem?_eq_some_iff.1 hb).1
    have cl := (List.getElem?_eq_some_iff.1 hb1).1
    cases hC : comL l s with
    | nil =>
      exfalso
      rw [hC] at hlen
      have hd : d = [] := List.length_eq_zero_iff.1 (by rw [hlen]; rfl)
      exact hc.2 hd
    | cons y r =>
      have h0 : 0 < d.length := by rw [hlen, hC]; simp
      have h32 := x32_own c d bl' hb1 h0 (by omega)
      rw [hS, ← nR_int] at h32
      rw [hC] at h32 hlen
      rw [hlen] at h32
      simp only [List.length_cons] at h32 hlen
      have eN := nR_len (y :: r)
      have b3 := fun y => show (bl'.set c y)[c]? = some y by simp [cl]
      have b4 := fun y => got_of (b3 y)
      simp [evCode, evOps, evOne, evOp, evPur, evEff, evPur.chunks, fillP, AOp.isEff, AO.ev, putP, PV.cells, PV.leaf, getB, getM, mapE, iterE, keyC, mapRows, mfind, eq1, eqL, scal, binP, unP, minP, maxP, foldP, PV.lt, PV.lt.ltL, endP, expoAll, expoG, expo, expo.expoL, frIds, frIds.frIdsL, nodupN, kill, cls, clsFuel, resO, RV.get, loadP, evC_p, evC_s, endS, endT, rowsOf, callP, thinL, unfr, unfr.unfrL, PV.noMem, PV.noMem.noMemL, optI, mapO, norm, trimT, trimB, forget, hasN, blksLt, List.set, softChk, softGo, softRd, effTg, rdP, eI, eS, vS, q, L', hb, hbg, el, ob, h32, resD, hb0, b3, b4, eN, hlen, cl]
set_option maxRecDepth 100000 in
theorem f15_false (x a b : Bool) (l : List Sp) (o m : List Int) (s : Sp) (hl : l.length < 1000000) (hol : o.length ≤ 1000000) (hml : m.length ≤ 1000000) (hc : (decide (o = ordI l) && decide (m = mostP l)) = false) :
    evE Dg 15 [eS x l, .agg [eI a o, eI b m], vS s] = some .nilS := by
  obtain ⟨bl', q, L, hb⟩ := f31_false x a b l o m s hl hol hml hc [bxX a b o m, bxS s, some ⟨0, 1, true, []⟩]
  have hb0 : ∀ b, Nat.blt b 0 = false := fun b => by cases b <;> rfl
  simp only [List.length_cons, List.length_nil] at q L hb
  have L' : 3 ≤ bl'.length := L
  simp only [eI, eS, vS, bxX, bxS] at q
  have hbg := got_of hb
  have h32 := x32_nil bl'
  have el := (List.getElem?_eq_some_iff.1 hb).1
  refine evE_intro 1 D15 rfl ?_
  unfold c15
  simp [evCode, evOps, evOne, evOp, evPur, evEff, evPur.chunks, fillP, AOp.isEff, AO.ev, putP, PV.cells, PV.leaf, getB, getM, mapE, iterE, keyC, mapRows, mfind, eq1, eqL, scal, binP, unP, minP, maxP, foldP, PV.lt, PV.lt.ltL, endP, expoAll, expoG, expo, expo.expoL, frIds, frIds.frIdsL, nodupN, kill, cls, clsFuel, resO, RV.get, loadP, evC_p, evC_s, endS, endT, rowsOf, callP, thinL, unfr, unfr.unfrL, PV.noMem, PV.noMem.noMemL, optI, mapO, norm, trimT, trimB, forget, hasN, blksLt, List.set, softChk, softGo, softRd, effTg, rdP, eI, eS, vS, q, L', hb, hbg, el, obG, h32, hb0]
theorem ok_eq {o o' m m' : List Int} (h : (decide (o = o') && decide (m = m')) = true) : o = o' ∧ m = m' := by
  simpa using h
theorem f15 (x a b : Bool) (l : List Sp) (o m : List Int) (s : Sp) (hl : l.length < 1000000) (hol : o.length ≤ 1000000) (hml : m.length ≤ 1000000) :
    evE Dg 15 [eS x l, .agg [eI a o, eI b m], vS s] = some (resD (if (decide (o = ordI l) && decide (m = mostP l)) = true then comL l s else [])) := by
  cases hc : (decide (o = ordI l) && decide (m = mostP l)) with
  | false => rw [f15_false x a b l o m s hl hol hml hc]; rfl
  | true =>
    obtain ⟨rfl, rfl⟩ := ok_eq hc
    rw [f15_true x a b l s hl]
    rfl
def resL (d : List Nat) : PV := match d with
  | [] => .nilS
  | _ :: _ => .sl false 1 (nR d)
set_option maxRecDepth 100000 in
theorem f17 (x a b : Bool) (l : List Sp) (o m : List Int) (t : Int) (hl : l.length < 1000000) (hol : o.length ≤ 1000000) (hml : m.length ≤ 1000000) :
    evE Dg 17 [eS x l, .agg [eI a o, eI b m], .int .i64 t] = some (resL (if (decide (o = ordI l) && decide (m = mostP l)) = true then comL l (t, IntKind.i64.wrap (t + 1)) else [])) := by
  have h := f15 x a b l o m (t, IntKind.i64.wrap (t + 1)) hl hol hml
  generalize (if (decide (o = ordI l) && decide (m = mostP l)) = true then comL l (t, IntKind.i64.wrap (t + 1)) else []) = d at *
  simp only [eI, eS, vS] at h
  have hb0 : ∀ b, Nat.blt b 0 = false := fun b => by cases b <;> rfl
  have im : ∀ rows, impB (PV.fr 1 rows) = [⟨rows.length, 1, true, rows⟩] := fun _ => rfl
  have iv : ∀ k rows, impV k (PV.fr 1 rows) = .own k rows.length 0 rows.length := fun _ _ => rfl
  have eN := nR_len
  refine evE_intro 1 D17 rfl ?_
  unfold c17
  cases d with
  | nil => simp only [resD] at h; simp [evCode, evOps, evOne, evOp, evPur, evEff, evPur.chunks, fillP, AOp.isEff, AO.ev, putP, PV.cells, PV.leaf, getB, getM, mapE, iterE, keyC, mapRows, mfind, eq1, eqL, scal, binP, unP, minP, maxP, foldP, PV.lt, PV.lt.ltL, endP, expoAll, expoG, expo, expo.expoL, frIds, frIds.frIdsL, nodupN, kill, cls, clsFuel, resO, RV.get, loadP, evC_p, evC_s, endS, endT, rowsOf, callP, thinL, unfr, unfr.unfrL, PV.noMem, PV.noMem.noMemL, optI, mapO, norm, trimT, trimB, forget, hasN, blksLt, List.set, softChk, softGo, softRd, effTg, rdP, eI, eS, h, resL, hb0, im, iv]
  | cons y r => simp only [resD] at h; simp [evCode, evOps, evOne, evOp, evPur, evEff, evPur.chunks, fillP, AOp.isEff, AO.ev, putP, PV.cells, PV.leaf, getB, getM, mapE, iterE, keyC, mapRows, mfind, eq1, eqL, scal, binP, unP, minP, maxP, foldP, PV.lt, PV.lt.ltL, endP, expoAll, expoG, expo, expo.expoL, frIds, frIds.frIdsL, nodupN, kill, cls, clsFuel, resO, RV.get, loadP, evC_p, evC_s, endS, endT, rowsOf, callP, thinL, unfr, unfr.unfrL, PV.noMem, PV.noMem.noMemL, optI, mapO, norm, trimT, trimB, forget, hasN, blksLt, List.set, softChk, softGo, softRd, effTg, rdP, eI, eS, h, resL, hb0, im, iv, eN]
set_option maxRecDepth 100000 in
theorem f19 (x a b : Bool) (l : List Sp) (o m : List Int) (s : Sp) (hl : l.length < 1000000) (hol : o.length ≤ 1000000) (hml : m.length ≤ 1000000) :
    evE Dg 19 [eS x l, .agg [eI a o, eI b m], vS s] = some (.int .i64 ((if (decide (o = ordI l) && decide (m = mostP l)) = true then exv l s l.length 0 l.length else 0 : Nat) : Int)) := by
  have hb0 : ∀ b, Nat.blt b 0 = false := fun b => by cases b <;> rfl
  cases hc : (decide (o = ordI l) && decide (m = mostP l)) with
  | false =>
    obtain ⟨bl', q, L, hb⟩ := f31_false x a b l o m s hl hol hml hc [bxX a b o m, bxS s]
    simp only [List.length_cons, List.length_nil] at q L hb
    have L' : 2 ≤ bl'.length := L
    simp only [eI, eS, vS, bxX, bxS] at q
    have hbg := got_of hb
    have el := (List.getElem?_eq_some_iff.1 hb).1
    refine evE_intro 1 D19 rfl ?_
    unfold c19
    simp [evCode, evOps, evOne, evOp, evPur, evEff, evPur.chunks, fillP, AOp.isEff, AO.ev, putP, PV.cells, PV.leaf, getB, getM, mapE, iterE, keyC, mapRows, mfind, eq1, eqL, scal, binP, unP, minP, maxP, foldP, PV.lt, PV.lt.ltL, endP, expoAll, expoG, expo, expo.expoL, frIds, frIds.frIdsL, nodupN, kill, cls, clsFuel, resO, RV.get, loadP, evC_p, evC_s, endS, endT, rowsOf, callP, thinL, unfr, unfr.unfrL, PV.noMem, PV.noMem.noMemL, optI, mapO, norm, trimT, trimB, forget, hasN, blksLt, List.set, softChk, softGo, softRd, effTg, rdP, eI, eS, vS, q, L', hb, hbg, el, obG, hb0]
  | true =>
    obtain ⟨rfl, rfl⟩ := ok_eq hc
    obtain ⟨bl', q, L, I⟩ := f31_true x a b l s hl [bxX a b (ordI l) (mostP l), bxS s]
    generalize exf l s l.length 0 l.length = d at *
    generalize exv l s l.length 0 l.length = v at *
    simp only [List.length_cons, List.length_nil] at q L I
    have L' : 2 ≤ bl'.length := L
    simp only [eI, eS, vS, bxX, bxS] at q
    obtain ⟨fl, fnd, hb, _⟩ := I.visit
    have hbg := got_of hb
    have el := (List.getElem?_eq_some_iff.1 hb).1
    refine evE_intro 1 D19 rfl ?_
    unfold c19
    simp [evCode, evOps, evOne, evOp, evPur, evEff, evPur.chunks, fillP, AOp.isEff, AO.ev, putP, PV.cells, PV.leaf, getB, getM, mapE, iterE, keyC, mapRows, mfind, eq1, eqL, scal, binP, unP, minP, maxP, foldP, PV.lt, PV.lt.ltL, endP, expoAll, expoG, expo, expo.expoL, frIds, frIds.frIdsL, nodupN, kill, cls, clsFuel, resO, RV.get, loadP, evC_p, evC_s, endS, endT, rowsOf, callP, thinL, unfr, unfr.unfrL, PV.noMem, PV.noMem.noMemL, optI, mapO, norm, trimT, trimB, forget, hasN, blksLt, List.set, softChk, softGo, softRd, effTg, rdP, eI, eS, vS, q, L', hb, hbg, el, ob, hb0]
set_option maxRecDepth 100000 in
theorem f20 (x a b : Bool) (l : List Sp) (o m : List Int) (s : Sp) (hl : l.length < 1000000) (hol : o.length ≤ 1000000) (hml : m.length ≤ 1000000) :
    evE Dg 20 [eS x l, .agg [eI a o, eI b m], vS s] = some (.int .i64 ((if (decide (o = ordI l) && decide (m = mostP l)) = true then exv l s l.length 0 l.length else 0 : Nat) : Int)) := by
  have h14 := f14 x a b l o m hl hol hml
  have e1 := spRows_len l
  cases hc : (decide (o = ordI l) && decide (m = mostP l)) with
  | false =>
    rw [hc] at h14
    simp only [eI, eS] at h14
    refine evE_intro 1 D20 rfl ?_
    unfold c20
    simp [evCode, evOps, evOne, evOp, evPur, evEff, evPur.chunks, fillP, AOp.isEff, AO.ev, putP, PV.cells, PV.leaf, getB, getM, mapE, iterE, keyC, mapRows, mfind, eq1, eqL, scal, binP, unP, minP, maxP, foldP, PV.lt, PV.lt.ltL, endP, expoAll, expoG, expo, expo.expoL, frIds, frIds.frIdsL, nodupN, kill, cls, clsFuel, resO, RV.get, loadP, evC_p, evC_s, endS, endT, rowsOf, callP, thinL, unfr, unfr.unfrL, PV.noMem, PV.noMem.noMemL, optI, mapO, norm, trimT, trimB, forget, hasN, blksLt, List.set, softChk, softGo, softRd, effTg, rdP, eI, eS, vS, h14]
  | true =>
    rw [hc] at h14
    obtain ⟨rfl, rfl⟩ := ok_eq hc
    have h35 := f35 x a b l s (by omega) l.length 0 l.length (by omega) (Nat.le_refl _) (by omega)
    generalize exv l s l.length 0 l.length = v at *
    simp only [eI, eS, vS] at h14 h35
    push_cast at h35
    refine evE_intro 1 D20 rfl ?_
    unfold c20
    simp [evCode, evOps, evOne, evOp, evPur, evEff, evPur.chunks, fillP, AOp.isEff, AO.ev, putP, PV.cells, PV.leaf, getB, getM, mapE, iterE, keyC, mapRows, mfind, eq1, eqL, scal, binP, unP, minP, maxP, foldP, PV.lt, PV.lt.ltL, endP, expoAll, expoG, expo, expo.expoL, frIds, frIds.frIdsL, nodupN, kill, cls, clsFuel, resO, RV.get, loadP, evC_p, evC_s, endS, endT, rowsOf, callP, thinL, unfr, unfr.unfrL, PV.noMem, PV.noMem.noMemL, optI, mapO, norm, trimT, trimB, forget, hasN, blksLt, List.set, softChk, softGo, softRd, effTg, rdP, eI, eS, vS, h14, h35, e1]
end Go.Proofs.Ytkodjmlhmpokoaa
