/- heapdump: HeapdumpMisses. -/
-- BIG
import Derived.Test.YtdbfbaiopmpklaaDoorHdH
namespace Go.Proofs.YtdbfbaiopmpklaaDoor
open Go Go.RowKit
set_option linter.unusedVariables false
set_option linter.unusedSimpArgs false
set_option maxHeartbeats 8000000

theorem oR_lt (l : List Ob) : (∀ x, x ∈ oR l → PV.lt.ltL 0 x = true) ↔ True := iff_true_intro (by
  intro x hx
  simp only [oR, List.mem_map] at hx
  obtain ⟨z, _, rfl⟩ := hx
  rfl)
theorem mapO_set {f : List PV → Option (List PV)} {R : List PV} {x : Ob} (hf : ∀ o, f (oR1 o) = some (oR1 o)) (hx : f R = some (oR1 x)) : ∀ (l : List Ob) (i : Nat), mapO f ((oR l).set i R) = some (oR (l.set i x))
  | [], i => rfl
  | o :: l, 0 => by
    have h : ∀ l : List Ob, mapO f (oR l) = some (oR l) := fun l => by
      induction l with
      | nil => rfl
      | cons a l ih =>
        have e : oR (a :: l) = oR1 a :: oR l := rfl
        rw [e]
        simp only [mapO, hf, ih]
    have e : (oR (o :: l)).set 0 R = R :: oR l := rfl
    have e2 : oR ((o :: l).set 0 x) = oR1 x :: oR l := rfl
    rw [e, e2]
    simp only [mapO, hx, h]
  | o :: l, i + 1 => by
    have ih := mapO_set hf hx l i
    have e : (oR (o :: l)).set (i + 1) R = oR1 o :: (oR l).set i R := rfl
    have e2 : oR ((o :: l).set (i + 1) x) = oR1 o :: oR (l.set i x) := rfl
    rw [e, e2]
    simp only [mapO, hf, ih]
theorem clsRows (n : Nat) (bl : Blks) (l : List Ob) (i : Nat) (o : Ob) (b ver N : Nat) (A : List Int) (hN : N = A.length) (v : Nat) (hg : getB bl b ver = some ⟨v, 1, true, iR A⟩) :
    mapO (mapO (cls (n + 1) bl)) ((oR l).set i [.int .i64 o.1, .int .i64 o.2.1, .str o.2.2.1, .own b ver 0 N]) = some (oR (l.set i (o.1, o.2.1, o.2.2.1, A))) := by
  subst hN
  refine mapO_set (fun o => ?_) ?_ l i
  · simp only [oR1, eI, mapO, cls, PV.lt, if_true]
  · have e := iR_len A
    have b0 : Nat.blt b 0 = false := by cases b <;> rfl
    have t : (iR A).take A.length = iR A := List.take_of_length_le (by rw [e]; exact Nat.le_refl _)
    simp only [mapO, cls, PV.lt, if_true, b0, hg, e, Nat.zero_add, List.drop_zero, t, oR1, eI, Bool.false_eq_true, if_false, Nat.le_refl]
set_option maxRecDepth 100000 in
theorem f7_in (l : List Ob) (r : List Int) (id : Int) (u : Nat) (hu : u < 256) (h9 : fewB l r = true) (hm : Okm l) (hc : chkE l r = 0) (hid : idx l id = none) : evE Dg 7 [eH l r, .int .i64 id, .int .u8 (u : Int)] = some (.bool true) := by
  have h8 := f8
  have hf9 := f9 l r
  rw [h9] at hf9
  obtain ⟨b1, b2, b3⟩ := few_of h9
  have h12 := f12 l r (by omega) (by omega) b3 hm
  rw [hc] at h12
  obtain ⟨z1, z2, z3⟩ := chk_zero hc
  have hr : ∀ o ∈ l, o.2.2.2.length ≤ 60 := fun o ho => by
    have := refs_len (rfs_mem z2 ho)
    rw [idsO_len] at this
    omega
  have hni := idx_none.1 hid
  have h10 := f10 l r id (by omega)
  rw [fres, hid] at h10
  have h12a := f12 l (r ++ [id]) (by omega) (by simp; omega) b3 hm
  rw [chk_root hc hni] at h12a
  have e1 := oR_len l
  have e2 := iR_len r
  have e3 := iR_len (r ++ [id])
  have a1 := iR_lt r
  have a2 := oR_lt l
  have ap : iR r ++ [[.int .i64 id]] = iR (r ++ [id]) := by simp [iR]
  have c1 : r.length * 8 ≤ 140737488355328 := by omega
  have c2 : r.length ≤ 140737488355328 := by omega
  have c3 : (r.length + 1) * 8 ≤ 140737488355328 := by omega
  have c4 : r.length + 1 ≤ 140737488355328 := by omega
  have t1 : List.take (r.length + 1) (iR (r ++ [id])) = iR (r ++ [id]) := List.take_of_length_le (by rw [e3]; simp)
  have e3' : (iR (r ++ [id])).length = r.length + 1 := by rw [e3]; simp
  simp only [eH, eI] at hf9 h12 h10 h12a
  by_cases hl0 : l = []
  · subst hl0
    refine evE_intro 1 D7 rfl ?_
    unfold c7
    have o0 : oR [] = [] := rfl
    simp (maxSteps := 100000000) [evCode, evOps, evOne, evOp, evPur, evEff, evPur.chunks, fillP, AOp.isEff, AO.ev, putP, PV.cells, PV.leaf, getB, getM, mapE, iterE, keyC, mapRows, mfind, eq1, eqL, scal, binP, unP, minP, maxP, foldP, PV.lt, PV.lt.ltL, endP, expoAll, expoG, expo, expo.expoL, frIds, frIds.frIdsL, nodupN, kill, cls, clsFuel, resO, RV.get, loadP, evC_p, evC_s, endS, endT, rowsOf, callP, thinL, unfr, unfr.unfrL, PV.noMem, PV.noMem.noMemL, optI, mapO, norm, trimT, trimB, forget, hasN, blksLt, List.set, softChk, softGo, softRd, effTg, tgOf, chgN, sameB, PV.same, PV.same.sameL, PV.same.sameLL, rdP, eq_true o0, eH, eI, h8, hf9, h12, h10, h12a, e2, e3', a1, ap, c1, c2, c3, c4, t1]
  · have hpos : 0 < l.length := by cases l with | nil => exact absurd rfl hl0 | cons a t => simp
    have hlt : u % l.length < l.length := Nat.mod_lt _ hpos
    have ho := List.getElem?_eq_getElem hlt
    generalize hoo : l[u % l.length] = o at ho
    generalize hi : u % l.length = i at *
    have hne : ¬ ((l.length : Int) = 0) := by omega
    have hne2 : ¬ (l.length = 0) := by omega
    have w1 : IntKind.i64.wrap (u : Int) = u := wrap_i64 _ (by omega) (by omega)
    have m1 : (u : Int).tmod (l.length : Int) = (i : Int) := by rw [← Int.ofNat_tmod, hi]
    have hr' := hr o (List.mem_of_getElem? ho)
    have r1 := oR_get ho
    have g1 := oR_got ho
    have h12b := f12 (l.set i (o.1, o.2.1, o.2.2.1, o.2.2.2 ++ [id])) r (by simp; omega) (by omega) (sum_ok (by omega) (fun x hx => by
      rcases List.mem_or_eq_of_mem_set hx with hx | rfl
      · have := hr x hx; omega
      · simp; omega) (by simp; omega)) (fun x hx => by
      rcases List.mem_or_eq_of_mem_set hx with hx | rfl
      · have := hr x hx; omega
      · simp; omega)
    rw [chk_ref hc hni ho] at h12b
    simp only [eH, eI] at h12b
    have e4 := iR_len o.2.2.2
    have e5 : (iR (o.2.2.2 ++ [id])).length = o.2.2.2.length + 1 := by rw [iR_len]; simp
    have a3 := iR_lt o.2.2.2
    have ap2 : iR o.2.2.2 ++ [[.int .i64 id]] = iR (o.2.2.2 ++ [id]) := by simp [iR]
    have d1 : o.2.2.2.length * 8 ≤ 140737488355328 := by omega
    have d2 : o.2.2.2.length ≤ 140737488355328 := by omega
    have d3 : (o.2.2.2.length + 1) * 8 ≤ 140737488355328 := by omega
    have d4 : o.2.2.2.length + 1 ≤ 140737488355328 := by omega
    have d5 : l.length * 56 ≤ 140737488355328 := by omega
    have d6 : l.length ≤ 140737488355328 := by omega
    have hiN : (0 : Int) ≤ i := by omega
    have t2 : List.take l.length (oR (l.set i (o.1, o.2.1, o.2.2.1, o.2.2.2 ++ [id]))) = oR (l.set i (o.1, o.2.1, o.2.2.1, o.2.2.2 ++ [id])) := List.take_of_length_le (by rw [oR_len]; simp)
    have t3 : List.take (o.2.2.2.length + 1) (iR (o.2.2.2 ++ [id])) = iR (o.2.2.2 ++ [id]) := List.take_of_length_le (by rw [e5]; exact Nat.le_refl _)
    have n35 : Nat.beq 3 5 = false := rfl
    have n34 : Nat.beq 3 4 = false := rfl
    have n45 : Nat.beq 4 5 = false := rfl
    have n05 : Nat.beq 0 5 = false := rfl
    have n04 : Nat.beq 0 4 = false := rfl
    have n03 : Nat.beq 0 3 = false := rfl
    have hlt' : (i : Int) < l.length := by omega
    refine evE_intro 1 D7 rfl ?_
    unfold c7
    simp (maxSteps := 100000000) [evCode, evOps, evOne, evOp, evPur, evEff, evPur.chunks, fillP, AOp.isEff, AO.ev, putP, PV.cells, PV.leaf, getB, getM, mapE, iterE, keyC, mapRows, mfind, eq1, eqL, scal, binP, unP, minP, maxP, foldP, PV.lt, PV.lt.ltL, endP, expoAll, expoG, expo, expo.expoL, frIds, frIds.frIdsL, nodupN, kill, cls, clsFuel, resO, RV.get, loadP, evC_p, evC_s, endS, endT, rowsOf, callP, thinL, unfr, unfr.unfrL, PV.noMem, PV.noMem.noMemL, optI, mapO, norm, trimT, trimB, forget, hasN, blksLt, List.set, softChk, softGo, softRd, effTg, tgOf, chgN, sameB, PV.same, PV.same.sameL, PV.same.sameLL, rdP, eH, eI, h8, hf9, h12, h10, h12a, e1, e2, e3', e4, e5, a1, a2, a3, ap, ap2, c1, c2, c3, c4, d1, d2, d3, d4, d5, d6, t1, hne, hne2, w1, m1, r1, g1, oR1, hlt, hlt', hiN, t2, n35, n34, n45, n05, n04, n03, h12b]
    rw [mapO_set (x := (o.1, o.2.1, o.2.2.1, o.2.2.2 ++ [id])) ?hf ?hx l i]
    case hf => intro o; simp [mapO, oR1, eI, PV.lt]
    case hx => simp [mapO, oR1, eI, PV.lt, getB, mapE, e5, t3, a3]
    have e6 := oR_len (l.set i (o.1, o.2.1, o.2.2.1, o.2.2.2 ++ [id]))
    rw [List.length_set] at e6
    simp (maxSteps := 100000000) [evCode, evOps, evOne, evOp, evPur, evEff, evPur.chunks, fillP, AOp.isEff, AO.ev, putP, PV.cells, PV.leaf, getB, getM, mapE, iterE, keyC, mapRows, mfind, eq1, eqL, scal, binP, unP, minP, maxP, foldP, PV.lt, PV.lt.ltL, endP, expoAll, expoG, expo, expo.expoL, frIds, frIds.frIdsL, nodupN, kill, cls, clsFuel, resO, RV.get, loadP, evC_p, evC_s, endS, endT, rowsOf, callP, thinL, unfr, unfr.unfrL, PV.noMem, PV.noMem.noMemL, optI, mapO, norm, trimT, trimB, forget, hasN, blksLt, List.set, softChk, softGo, softRd, effTg, tgOf, chgN, sameB, PV.same, PV.same.sameL, PV.same.sameLL, rdP, t2, e6, h12b]
set_option maxRecDepth 100000 in
theorem f7 (l : List Ob) (r : List Int) (id : Int) (u : Nat) (hu : u < 256) (hm : Okm l) : evE Dg 7 [eH l r, .int .i64 id, .int .u8 (u : Int)] = some (.bool true) := by
  have h8 := f8
  have h9 := f9 l r
  cases hf : fewB l r with
  | false =>
    rw [hf] at h9
    simp only [eH, eI] at h9
    refine evE_intro 1 D7 rfl ?_
    unfold c7
    simp (maxSteps := 100000000) [evCode, evOps, evOne, evOp, evPur, evEff, evPur.chunks, fillP, AOp.isEff, AO.ev, putP, PV.cells, PV.leaf, getB, getM, mapE, iterE, keyC, mapRows, mfind, eq1, eqL, scal, binP, unP, minP, maxP, foldP, PV.lt, PV.lt.ltL, endP, expoAll, expoG, expo, expo.expoL, frIds, frIds.frIdsL, nodupN, kill, cls, clsFuel, resO, RV.get, loadP, evC_p, evC_s, endS, endT, rowsOf, callP, thinL, unfr, unfr.unfrL, PV.noMem, PV.noMem.noMemL, optI, mapO, norm, trimT, trimB, forget, hasN, blksLt, List.set, softChk, softGo, softRd, effTg, tgOf, chgN, sameB, PV.same, PV.same.sameL, PV.same.sameLL, rdP, eH, eI, h8, h9]
  | true =>
    by_cases hc : chkE l r = 0
    · cases hid : idx l id with
      | none => exact f7_in l r id u hu hf hm hc hid
      | some j =>
        rw [hf] at h9
        obtain ⟨b1, b2, b3⟩ := few_of hf
        have h12 := f12 l r (by omega) (by omega) b3 hm
        rw [hc] at h12
        have h10 := f10 l r id (by omega)
        rw [fres, hid] at h10
        simp only [eH, eI] at h9 h10 h12
        refine evE_intro 1 D7 rfl ?_
        unfold c7
        simp (maxSteps := 100000000) [evCode, evOps, evOne, evOp, evPur, evEff, evPur.chunks, fillP, AOp.isEff, AO.ev, putP, PV.cells, PV.leaf, getB, getM, mapE, iterE, keyC, mapRows, mfind, eq1, eqL, scal, binP, unP, minP, maxP, foldP, PV.lt, PV.lt.ltL, endP, expoAll, expoG, expo, expo.expoL, frIds, frIds.frIdsL, nodupN, kill, cls, clsFuel, resO, RV.get, loadP, evC_p, evC_s, endS, endT, rowsOf, callP, thinL, unfr, unfr.unfrL, PV.noMem, PV.noMem.noMemL, optI, mapO, norm, trimT, trimB, forget, hasN, blksLt, List.set, softChk, softGo, softRd, effTg, tgOf, chgN, sameB, PV.same, PV.same.sameL, PV.same.sameLL, rdP, eH, eI, h8, h9, h10, h12]
    · rw [hf] at h9
      obtain ⟨b1, b2, b3⟩ := few_of hf
      have h12 := f12 l r (by omega) (by omega) b3 hm
      simp only [eH, eI] at h9 h12
      generalize chkE l r = e at *
      refine evE_intro 1 D7 rfl ?_
      unfold c7
      simp (maxSteps := 100000000) [evCode, evOps, evOne, evOp, evPur, evEff, evPur.chunks, fillP, AOp.isEff, AO.ev, putP, PV.cells, PV.leaf, getB, getM, mapE, iterE, keyC, mapRows, mfind, eq1, eqL, scal, binP, unP, minP, maxP, foldP, PV.lt, PV.lt.ltL, endP, expoAll, expoG, expo, expo.expoL, frIds, frIds.frIdsL, nodupN, kill, cls, clsFuel, resO, RV.get, loadP, evC_p, evC_s, endS, endT, rowsOf, callP, thinL, unfr, unfr.unfrL, PV.noMem, PV.noMem.noMemL, optI, mapO, norm, trimT, trimB, forget, hasN, blksLt, List.set, softChk, softGo, softRd, effTg, tgOf, chgN, sameB, PV.same, PV.same.sameL, PV.same.sameLL, rdP, eH, eI, h8, h9, h12, hc]
theorem wf8 {i : Int} (h : (Lit.int .u8 i).wf = true) : 0 ≤ i ∧ i ≤ 255 := by
  simp [Lit.wf, IntKind.min, IntKind.max, IntKind.signed, IntKind.bits] at h
  omega
set_option maxRecDepth 100000 in
theorem law7 (ps : List PV) (h : ArgL Tryd.prog 12 [25, 3, 5] ps) : evE Dg 7 ps = some (.bool true) := by
  obtain ⟨p, q, s, rfl, h1, h2, h3⟩ := argL3 h
  obtain ⟨l, r, rfl, hm⟩ := in_heap h1
  obtain ⟨id, rfl⟩ := in_i64 h2
  obtain ⟨i, rfl, w⟩ := argT_int Tryd.underlying5 h3
  obtain ⟨w0, w1⟩ := wf8 w
  obtain ⟨u, rfl⟩ := Int.eq_ofNat_of_zero_le w0
  exact f7 l r id u (by omega) hm
end Go.Proofs.YtdbfbaiopmpklaaDoor
