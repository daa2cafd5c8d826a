/- intern: Stack. -/
import Derived.Test.YtddlicbogbmpbaaIP9
namespace Go.Proofs.Ytddlicbogbmpbaa
open Go Go.RowKit
set_option linter.unusedVariables false
set_option linter.unusedSimpArgs false
set_option maxHeartbeats 4000000

/-- what accepted tables are -/
structure TGood (n : List (List UInt8)) (T : List (Int × Int)) : Prop where
  ln : n.length ≤ 1000
  lT : T.length ≤ 1000
  ok : ∀ a, a ∈ n → nameOk a = true
  nn : n.Nodup
  nT : T.Nodup
  rg : ∀ (k : Nat) (p : Int × Int), T[k]? = some p → -1 ≤ p.1 ∧ p.1 < k ∧ 0 ≤ p.2 ∧ p.2 < n.length
  dd : ∀ (k : Nat) (p : Int × Int), T[k]? = some p → dpt T k ≤ 32

theorem nodup_take {α : Type} {l : List α} (h : ∀ k a, l[k]? = some a → ¬ a ∈ l.take k) : l.Nodup := by
  rw [List.nodup_iff_pairwise_ne, List.pairwise_iff_getElem]
  intro i j hi hj hij e
  refine h j l[j] (List.getElem?_eq_getElem hj) ?_
  rw [List.mem_iff_getElem?]
  exact ⟨i, by rw [List.getElem?_take, if_pos hij, List.getElem?_eq_getElem hi, e]⟩
theorem take_nodup {α : Type} {l : List α} (h : l.Nodup) : ∀ k a, l[k]? = some a → ¬ a ∈ l.take k := by
  intro k a ha hm
  rw [List.mem_iff_getElem?] at hm
  obtain ⟨i, hi⟩ := hm
  rw [List.getElem?_take] at hi
  split at hi
  · rename_i hik
    obtain ⟨h1, e1⟩ := List.getElem?_eq_some_iff.1 ha
    obtain ⟨h2, e2⟩ := List.getElem?_eq_some_iff.1 hi
    have := (List.nodup_iff_pairwise_ne.1 h)
    rw [List.pairwise_iff_getElem] at this
    exact this i k h2 h1 hik (by rw [e1, e2])
  · cases hi

theorem good_of {n : List (List UInt8)} {T : List (Int × Int)} (h : chk n T = 0) : TGood n T := by
  unfold chk at h
  split at h
  · cases h
  · rename_i hl
    split at h
    · rename_i hn
      have hn' := (firstF_zero n 0).1 hn
      have hT' := (firstF_zero T 0).1 h
      have eT : ∀ k p, T[k]? = some p → badR n.length k p = false ∧ ¬ p ∈ T.take k ∧ dpt T k ≤ 32 := by
        intro k p hp
        have := hT' k p hp
        rw [Nat.zero_add] at this
        unfold errS at this
        split at this
        · cases this
        · rename_i hb
          split at this
          · cases this
          · split at this
            · cases this
            · exact ⟨by simpa using hb, by assumption, by omega⟩
      have eN : ∀ k a, n[k]? = some a → nameOk a = true ∧ ¬ a ∈ n.take k := by
        intro k a ha
        have := hn' k a ha
        rw [Nat.zero_add] at this
        unfold errN at this
        split at this
        · split at this
          · cases this
          · exact ⟨by assumption, by assumption⟩
        · cases this
      refine ⟨by omega, by omega, fun a ha => ?_, nodup_take fun k a ha => (eN k a ha).2, nodup_take fun k p hp => (eT k p hp).2.1, fun k p hp => ?_, fun k p hp => (eT k p hp).2.2⟩
      · obtain ⟨k, hk⟩ := List.mem_iff_getElem?.1 ha
        exact (eN k a hk).1
      · have := (eT k p hp).1
        have h2 : ¬ (p.1 < -1 ∨ (k : Int) ≤ p.1 ∨ p.2 < 0 ∨ (n.length : Int) ≤ p.2) := fun hh => by rw [(badR_spec).2 hh] at this; cases this
        omega
    · rename_i hn
      exact absurd h hn
theorem of_good {n : List (List UInt8)} {T : List (Int × Int)} (g : TGood n T) : chk n T = 0 := by
  unfold chk
  have hn : chkN n = 0 := by
    refine (firstF_zero n 0).2 fun k a ha => ?_
    unfold errN
    rw [Nat.zero_add, if_pos (g.ok a (List.mem_of_getElem? ha)), if_neg (take_nodup g.nn k a ha)]
  rw [if_neg (by have := g.ln; have := g.lT; omega), if_pos hn]
  refine (firstF_zero T 0).2 fun k p hp => ?_
  rw [Nat.zero_add]
  unfold errS
  have h1 := g.rg k p hp
  have hb : badR n.length k p = false := by
    cases hb : badR n.length k p with
    | false => rfl
    | true => have := badR_spec.1 hb; omega
  have := g.dd k p hp
  rw [hb, if_neg (by simp), if_neg (take_nodup g.nT k p hp), if_neg (by omega)]
theorem TGood.down {n : List (List UInt8)} {T : List (Int × Int)} (g : TGood n T) (k : Nat) : Down T k := fun j q _ hq => (g.rg j q hq).2.1

/-- the names from a place upward -/
def upS (n : List (List UInt8)) (T : List (Int × Int)) : Nat → Int → List (List UInt8)
  | 0, _ => []
  | f + 1, i => if i < 0 then [] else match T[i.toNat]? with
    | none => []
    | some p => n[p.2.toNat]?.getD [] :: upS n T f p.1
def stkE (n : List (List UInt8)) (T : List (Int × Int)) (i : Int) : Int := if chk n T = 0 then if i < -1 ∨ (T.length : Int) ≤ i then 2 else 0 else 1
def stkL (n : List (List UInt8)) (T : List (Int × Int)) (i : Int) : List (List UInt8) := if stkE n T i = 0 then (upS n T (i + 1).toNat i).reverse else []

theorem upS_fuel {n : List (List UInt8)} {T : List (Int × Int)} (g : TGood n T) : ∀ (f : Nat) (i : Int), i < f → ∀ (f' : Nat), i < f' → upS n T f i = upS n T f' i
  | 0, i, h, f', h' => by
    cases f' with
    | zero => rfl
    | succ f' => simp only [upS]; rw [if_pos (by omega)]
  | f + 1, i, h, f', h' => by
    cases f' with
    | zero => simp only [upS]; rw [if_pos (by omega)]
    | succ f' =>
      simp only [upS]
      split
      · rfl
      · cases hp : T[i.toNat]? with
        | none => rfl
        | some p =>
          simp only
          have := (g.rg _ _ hp).2.1
          rw [upS_fuel g f p.1 (by omega) f' (by omega)]

def S12 (x y : Bool) (n : List (List UInt8)) (T : List (Int × Int)) (u : Int × List (List UInt8)) : St := ⟨[eN x n, eSt y T, .int .i64 u.1, .top, .top, .top, .top, .top, .own 1 u.2.length 0 u.2.length] ++ List.replicate 33 .top, [some ⟨0, 1, true, []⟩, some ⟨u.2.length, 1, true, u.2.map rowN⟩]⟩

theorem f12 (x y : Bool) (n : List (List UInt8)) (T : List (Int × Int)) (i : Int) : evE Dg 12 [eN x n, eSt y T, .int .i64 i] = some (.tup [.fr 1 ((stkL n T i).map rowN), .int .i64 (stkE n T i)]) := by
  refine evE_intro (T.length + 2) D12 rfl ?_
  have h16 := f16 x y n T
  simp only [eN, eSt] at h16
  by_cases c : chk n T = 0
  · have g := good_of c
    by_cases c1 : i < -1
    · unfold c12
      simp [evCode, evOps, evOne, evOp, evPur, evEff, evPur.chunks, fillP, AOp.isEff, AO.ev, putP, PV.cells, PV.leaf, getB, getM, mapE, keyC, mapRows, mfind, eq1, eqL, scal, binP, unP, minP, maxP, foldP, PV.lt, PV.lt.ltL, endP, expoAll, expo, expo.expoL, frIds, frIds.frIdsL, nodupN, kill, cls, clsFuel, resO, RV.get, loadP, evC_p, evC_s, endS, endT, rowsOf, callP, thinL, unfr, unfr.unfrL, PV.noMem, PV.noMem.noMemL, optI, mapO, norm, trimT, trimB, forget, hasN, blksLt, List.set, eN, eSt, h16, c, c1, stkL, stkE]
    · by_cases c2 : (T.length : Int) ≤ i
      · unfold c12
        simp [evCode, evOps, evOne, evOp, evPur, evEff, evPur.chunks, fillP, AOp.isEff, AO.ev, putP, PV.cells, PV.leaf, getB, getM, mapE, keyC, mapRows, mfind, eq1, eqL, scal, binP, unP, minP, maxP, foldP, PV.lt, PV.lt.ltL, endP, expoAll, expo, expo.expoL, frIds, frIds.frIdsL, nodupN, kill, cls, clsFuel, resO, RV.get, loadP, evC_p, evC_s, endS, endT, rowsOf, callP, thinL, unfr, unfr.unfrL, PV.noMem, PV.noMem.noMemL, optI, mapO, norm, trimT, trimB, forget, hasN, blksLt, List.set, eN, eSt, h16, c, c1, c2, stkL, stkE]
      · have H := loop_stop (body := evCode (evC Dg) (T.length + 2) c12b0) (keep := [0, 1, 2, 8]) (n0 := 2) (fuel := T.length + 2) (S12 x y n T) (fun u => (u.1 + 1).toNat)
          (fun u => -1 ≤ u.1 ∧ u.1 < T.length ∧ (u.2.length : Int) + u.1 ≤ T.length ∧ u.2 ++ upS n T (u.1 + 1).toNat u.1 = upS n T (i + 1).toNat i) (fun u => u.1 < 0)
          (by
            rintro ⟨j, acc⟩ ⟨i1, i2, i3, i4⟩ hs
            simp only at i1 i2 i3 i4 hs
            obtain ⟨p, hp⟩ : ∃ p, T[j.toNat]? = some p := ⟨_, List.getElem?_eq_getElem (by omega)⟩
            obtain ⟨r1, r2, r3, r4⟩ := g.rg _ _ hp
            obtain ⟨a, ha⟩ : ∃ a, n[p.2.toNat]? = some a := ⟨_, List.getElem?_eq_getElem (by omega)⟩
            have e : upS n T (j + 1).toNat j = a :: upS n T (p.1 + 1).toNat p.1 := by
              rw [show (j + 1).toNat = j.toNat + 1 by omega]
              simp only [upS]
              rw [if_neg hs, hp]
              simp only [ha, Option.getD_some]
              rw [upS_fuel g j.toNat p.1 (by omega) (p.1 + 1).toNat (by omega)]
            have g2 := g.lT
            have k1 : ¬ (acc.length + 1) * 16 > 140737488355328 := by omega
            have c0 : 0 ≤ j := by omega
            have m1 : (acc.length + 1) * 16 ≤ 140737488355328 := by omega
            have m2 : acc.length + 1 ≤ 140737488355328 := by omega
            refine ⟨(p.1, acc ++ [a]), ?_⟩
            unfold c12b0
            simp [evCode, evOps, evOne, evOp, evPur, evEff, evPur.chunks, fillP, AOp.isEff, AO.ev, putP, PV.cells, PV.leaf, getB, getM, mapE, keyC, mapRows, mfind, eq1, eqL, scal, binP, unP, minP, maxP, foldP, PV.lt, PV.lt.ltL, endP, expoAll, expo, expo.expoL, frIds, frIds.frIdsL, nodupN, kill, cls, clsFuel, resO, RV.get, loadP, evC_p, evC_s, endS, endT, rowsOf, callP, thinL, unfr, unfr.unfrL, PV.noMem, PV.noMem.noMemL, optI, mapO, norm, trimT, trimB, forget, hasN, blksLt, List.set, S12, eN, eSt, hp, ha, c0, r3, eP, rowN, m1, m2]
            refine ⟨⟨r1, by omega, by omega, ?_⟩, by omega⟩
            rw [← i4, e])
          (by
            rintro ⟨j, acc⟩ hI hs s
            simp only at hs
            have hs' : ¬ 0 ≤ j := by omega
            unfold c12b0
            simp [evCode, evOps, evOne, evOp, evPur, evEff, evPur.chunks, fillP, AOp.isEff, AO.ev, putP, PV.cells, PV.leaf, getB, getM, mapE, keyC, mapRows, mfind, eq1, eqL, scal, binP, unP, minP, maxP, foldP, PV.lt, PV.lt.ltL, endP, expoAll, expo, expo.expoL, frIds, frIds.frIdsL, nodupN, kill, cls, clsFuel, resO, RV.get, loadP, evC_p, evC_s, endS, endT, rowsOf, callP, thinL, unfr, unfr.unfrL, PV.noMem, PV.noMem.noMemL, optI, mapO, norm, trimT, trimB, forget, hasN, blksLt, List.set, S12, hs']) (i, []) (by simp; omega) (by simp; omega)
        unfold c12
        simp [evCode, evOps, evOne, evOp, evPur, evEff, evPur.chunks, fillP, AOp.isEff, AO.ev, putP, PV.cells, PV.leaf, getB, getM, mapE, keyC, mapRows, mfind, eq1, eqL, scal, binP, unP, minP, maxP, foldP, PV.lt, PV.lt.ltL, endP, expoAll, expo, expo.expoL, frIds, frIds.frIdsL, nodupN, kill, cls, clsFuel, resO, RV.get, loadP, evC_p, evC_s, endS, endT, rowsOf, callP, thinL, unfr, unfr.unfrL, PV.noMem, PV.noMem.noMemL, optI, mapO, norm, trimT, trimB, forget, hasN, blksLt, List.set, eN, eSt, h16, c, c1, c2]
        generalize hE : evLoop _ _ _ _ _ = E
        obtain ⟨⟨j, acc⟩, ⟨i1, i2, i3, i4⟩, hs, hb⟩ := H _ _ hE (by simp [evCode, evOps, evOne, evOp, evPur, evEff, evPur.chunks, fillP, AOp.isEff, AO.ev, putP, PV.cells, PV.leaf, getB, getM, mapE, keyC, mapRows, mfind, eq1, eqL, scal, binP, unP, minP, maxP, foldP, PV.lt, PV.lt.ltL, endP, expoAll, expo, expo.expoL, frIds, frIds.frIdsL, nodupN, kill, cls, clsFuel, resO, RV.get, loadP, evC_p, evC_s, endS, endT, rowsOf, callP, thinL, unfr, unfr.unfrL, PV.noMem, PV.noMem.noMemL, optI, mapO, norm, trimT, trimB, forget, hasN, blksLt, List.set, S12, eN, eSt])
        simp only at i1 i2 i3 i4 hs
        rw [hb]
        have hs' : ¬ 0 ≤ j := by omega
        have hz : upS n T (j + 1).toNat j = [] := by rw [show (j + 1).toNat = 0 by omega]; rfl
        rw [hz, List.append_nil] at i4
        have gl := g.lT
        have h27 := s27 _ rfl acc.length acc (by omega)
        unfold c12b0 c12r0
        simp [evCode, evOps, evOne, evOp, evPur, evEff, evPur.chunks, fillP, AOp.isEff, AO.ev, putP, PV.cells, PV.leaf, getB, getM, mapE, keyC, mapRows, mfind, eq1, eqL, scal, binP, unP, minP, maxP, foldP, PV.lt, PV.lt.ltL, endP, expoAll, expo, expo.expoL, frIds, frIds.frIdsL, nodupN, kill, cls, clsFuel, resO, RV.get, loadP, evC_p, evC_s, endS, endT, rowsOf, callP, thinL, unfr, unfr.unfrL, PV.noMem, PV.noMem.noMemL, optI, mapO, norm, trimT, trimB, forget, hasN, blksLt, List.set, S12, hs', h27, stkL, stkE, c, c1, c2, ← i4]
  · have c' : (chk n T == 0) = false := by simpa using c
    unfold c12
    simp [evCode, evOps, evOne, evOp, evPur, evEff, evPur.chunks, fillP, AOp.isEff, AO.ev, putP, PV.cells, PV.leaf, getB, getM, mapE, keyC, mapRows, mfind, eq1, eqL, scal, binP, unP, minP, maxP, foldP, PV.lt, PV.lt.ltL, endP, expoAll, expo, expo.expoL, frIds, frIds.frIdsL, nodupN, kill, cls, clsFuel, resO, RV.get, loadP, evC_p, evC_s, endS, endT, rowsOf, callP, thinL, unfr, unfr.unfrL, PV.noMem, PV.noMem.noMemL, optI, mapO, norm, trimT, trimB, forget, hasN, blksLt, List.set, eN, eSt, h16, c, c', stkL, stkE]


theorem lt_last {t b v a c : Nat} : ∀ {sl : List PV} (i : Nat), sl[i]? = some (.own b v a c) → t ≤ b → PV.lt.ltL t sl = false
  | [], i, h, _ => by simp at h
  | p :: r, 0, h, ht => by
    simp at h; subst h
    simp [PV.lt.ltL, PV.lt]
    intro h1; omega
  | p :: r, i + 1, h, ht => by
    simp only [PV.lt.ltL]
    rw [lt_last i (by simpa using h) ht]
    simp
theorem norm_all {keep : List Nat} {n0 : Nat} {st : St} {b v a c : Nat} (i : Nat) (h : (forget keep 0 st.sl)[i]? = some (.own b v a c)) (hb : b + 1 = st.bl.length) : norm keep n0 st = ⟨forget keep 0 st.sl, st.bl⟩ := by
  unfold norm trimB
  generalize trimT _ _ _ _ = t
  by_cases ht : t ≤ b
  · rw [lt_last i h ht]; rfl
  · rw [List.take_of_length_le (by omega)]
    split <;> rfl

def S13 (x y : Bool) (n : List (List UInt8)) (T : List (Int × Int)) (u : Int × List (List UInt8) × Blks) : St := ⟨[eN x n, eSt y T, .int .i64 u.1, .top, .top, .top, .top, .top, .own (u.2.2.length + 1) u.2.1.length 0 u.2.1.length] ++ List.replicate 31 .top, some ⟨0, 1, true, []⟩ :: (u.2.2 ++ [some ⟨u.2.1.length, 1, true, u.2.1.map rowN⟩])⟩
theorem mid_get {α : Type} (b x : α) (g r : List α) : (b :: (g ++ x :: r))[g.length + 1]? = some x := by simp
theorem mid_get2 {α : Type} (b x y : α) (g r : List α) : (b :: (g ++ x :: y :: r))[g.length + 1 + 1]? = some y := by simp
theorem mid_set2 {α : Type} (b x y z : α) (g r : List α) : (b :: (g ++ x :: y :: r)).set (g.length + 1 + 1) z = b :: (g ++ x :: z :: r) := by
  simp [List.set_append]

theorem f13 (x y : Bool) (n : List (List UInt8)) (T : List (Int × Int)) (i : Int) : evE Dg 13 [eN x n, eSt y T, .int .i64 i] = some (.tup [.fr 1 ((stkL n T i).map rowN), .int .i64 (stkE n T i)]) := by
  refine evE_intro (T.length + 2) D13 rfl ?_
  have h16 := f17 x y n T
  simp only [eN, eSt] at h16
  by_cases c : chk n T = 0
  · have g := good_of c
    by_cases c1 : i < -1
    · unfold c13
      simp [evCode, evOps, evOne, evOp, evPur, evEff, evPur.chunks, fillP, AOp.isEff, AO.ev, putP, PV.cells, PV.leaf, getB, getM, mapE, keyC, mapRows, mfind, eq1, eqL, scal, binP, unP, minP, maxP, foldP, PV.lt, PV.lt.ltL, endP, expoAll, expo, expo.expoL, frIds, frIds.frIdsL, nodupN, kill, cls, clsFuel, resO, RV.get, loadP, evC_p, evC_s, endS, endT, rowsOf, callP, thinL, unfr, unfr.unfrL, PV.noMem, PV.noMem.noMemL, optI, mapO, norm, trimT, trimB, forget, hasN, blksLt, List.set, eN, eSt, h16, c, c1, stkL, stkE]
    · by_cases c2 : (T.length : Int) ≤ i
      · unfold c13
        simp [evCode, evOps, evOne, evOp, evPur, evEff, evPur.chunks, fillP, AOp.isEff, AO.ev, putP, PV.cells, PV.leaf, getB, getM, mapE, keyC, mapRows, mfind, eq1, eqL, scal, binP, unP, minP, maxP, foldP, PV.lt, PV.lt.ltL, endP, expoAll, expo, expo.expoL, frIds, frIds.frIdsL, nodupN, kill, cls, clsFuel, resO, RV.get, loadP, evC_p, evC_s, endS, endT, rowsOf, callP, thinL, unfr, unfr.unfrL, PV.noMem, PV.noMem.noMemL, optI, mapO, norm, trimT, trimB, forget, hasN, blksLt, List.set, eN, eSt, h16, c, c1, c2, stkL, stkE]
      · have H := loop_stop (body := evCode (evC Dg) (T.length + 2) c13b0) (keep := [0, 1, 2, 8]) (n0 := 2) (fuel := T.length + 2) (S13 x y n T) (fun u => (u.1 + 1).toNat)
          (fun u => -1 ≤ u.1 ∧ u.1 < T.length ∧ (u.2.1.length : Int) + u.1 ≤ T.length ∧ (upS n T (u.1 + 1).toNat u.1).reverse ++ u.2.1 = (upS n T (i + 1).toNat i).reverse) (fun u => u.1 < 0)
          (by
            rintro ⟨j, acc, G⟩ ⟨i1, i2, i3, i4⟩ hs
            simp only at i1 i2 i3 i4 hs
            obtain ⟨p, hp⟩ : ∃ p, T[j.toNat]? = some p := ⟨_, List.getElem?_eq_getElem (by omega)⟩
            obtain ⟨r1, r2, r3, r4⟩ := g.rg _ _ hp
            obtain ⟨a, ha⟩ : ∃ a, n[p.2.toNat]? = some a := ⟨_, List.getElem?_eq_getElem (by omega)⟩
            have e : upS n T (j + 1).toNat j = a :: upS n T (p.1 + 1).toNat p.1 := by
              rw [show (j + 1).toNat = j.toNat + 1 by omega]
              simp only [upS]
              rw [if_neg hs, hp]
              simp only [ha, Option.getD_some]
              rw [upS_fuel g j.toNat p.1 (by omega) (p.1 + 1).toNat (by omega)]
            have g2 := g.lT
            have c0 : 0 ≤ j := by omega
            have m1 : (acc.length + 1) * 16 ≤ 140737488355328 := by omega
            have m2 : acc.length ≤ 140737488355327 := by omega
            refine ⟨(p.1, a :: acc, G ++ [some ⟨acc.length, 1, true, acc.map rowN⟩]), ?_⟩
            have q1 : (p.1 + 1).toNat < (j + 1).toNat := by omega
            have q2 : (((a :: acc).length : Nat) : Int) + p.1 ≤ T.length := by simp; omega
            have q3 : p.1 < T.length := by omega
            rw [e] at i4
            simp only [List.reverse_cons, List.append_assoc, List.singleton_append] at i4
            have X : ∃ s', evCode (evC Dg) (T.length + 2) c13b0 (S13 x y n T (j, acc, G)) = some (.normal s') ∧ (forget [0, 1, 2, 8] 0 s'.sl) = (S13 x y n T (p.1, a :: acc, G ++ [some ⟨acc.length, 1, true, acc.map rowN⟩])).sl ∧ s'.bl = (S13 x y n T (p.1, a :: acc, G ++ [some ⟨acc.length, 1, true, acc.map rowN⟩])).bl := by
              have hall : (acc.map rowN).all (PV.lt.ltL 0) = true := by simp [rowN, PV.lt.ltL, PV.lt]
              have htk : List.take acc.length (acc.map rowN) = acc.map rowN := List.take_of_length_le (by simp)
              have e1 : 1 + acc.length = acc.length + 1 := by omega
              unfold c13b0
              simp [evCode, evOps, evOne, evOp, evPur, evEff, evPur.chunks, fillP, AOp.isEff, AO.ev, putP, PV.cells, PV.leaf, getB, getM, mapE, keyC, mapRows, mfind, eq1, eqL, scal, binP, unP, minP, maxP, foldP, PV.lt, PV.lt.ltL, endP, expoAll, expo, expo.expoL, frIds, frIds.frIdsL, nodupN, kill, cls, clsFuel, resO, RV.get, loadP, evC_p, evC_s, endS, endT, rowsOf, callP, thinL, unfr, unfr.unfrL, PV.noMem, PV.noMem.noMemL, optI, mapO, norm, trimT, trimB, forget, hasN, blksLt, List.set, S13, eN, eSt, hp, ha, c0, r3, eP, m1, m2, mid_get, mid_get2, mid_set2, hall, htk, e1]
              rfl
            obtain ⟨s', x1, x2, x3⟩ := X
            refine ⟨s', x1, ?_, ⟨r1, q3, q2, i4⟩, q1⟩
            rw [norm_all 8 (b := (G ++ [some (⟨acc.length, 1, true, acc.map rowN⟩ : Blk)]).length + 1) (v := (a :: acc).length) (a := 0) (c := (a :: acc).length) (by rw [x2]; rfl) (by rw [x3]; simp [S13]), x2, x3])
          (by
            rintro ⟨j, acc, G⟩ hI hs s
            simp only at hs
            have hs' : ¬ 0 ≤ j := by omega
            unfold c13b0
            simp [evCode, evOps, evOne, evOp, evPur, evEff, evPur.chunks, fillP, AOp.isEff, AO.ev, putP, PV.cells, PV.leaf, getB, getM, mapE, keyC, mapRows, mfind, eq1, eqL, scal, binP, unP, minP, maxP, foldP, PV.lt, PV.lt.ltL, endP, expoAll, expo, expo.expoL, frIds, frIds.frIdsL, nodupN, kill, cls, clsFuel, resO, RV.get, loadP, evC_p, evC_s, endS, endT, rowsOf, callP, thinL, unfr, unfr.unfrL, PV.noMem, PV.noMem.noMemL, optI, mapO, norm, trimT, trimB, forget, hasN, blksLt, List.set, S13, hs']) (i, [], []) (by simp; omega) (by simp; omega)
        unfold c13
        simp [evCode, evOps, evOne, evOp, evPur, evEff, evPur.chunks, fillP, AOp.isEff, AO.ev, putP, PV.cells, PV.leaf, getB, getM, mapE, keyC, mapRows, mfind, eq1, eqL, scal, binP, unP, minP, maxP, foldP, PV.lt, PV.lt.ltL, endP, expoAll, expo, expo.expoL, frIds, frIds.frIdsL, nodupN, kill, cls, clsFuel, resO, RV.get, loadP, evC_p, evC_s, endS, endT, rowsOf, callP, thinL, unfr, unfr.unfrL, PV.noMem, PV.noMem.noMemL, optI, mapO, norm, trimT, trimB, forget, hasN, blksLt, List.set, eN, eSt, h16, c, c1, c2]
        generalize hE : evLoop _ _ _ _ _ = E
        obtain ⟨⟨j, acc, G⟩, ⟨i1, i2, i3, i4⟩, hs, hb⟩ := H _ _ hE (by simp [evCode, evOps, evOne, evOp, evPur, evEff, evPur.chunks, fillP, AOp.isEff, AO.ev, putP, PV.cells, PV.leaf, getB, getM, mapE, keyC, mapRows, mfind, eq1, eqL, scal, binP, unP, minP, maxP, foldP, PV.lt, PV.lt.ltL, endP, expoAll, expo, expo.expoL, frIds, frIds.frIdsL, nodupN, kill, cls, clsFuel, resO, RV.get, loadP, evC_p, evC_s, endS, endT, rowsOf, callP, thinL, unfr, unfr.unfrL, PV.noMem, PV.noMem.noMemL, optI, mapO, norm, trimT, trimB, forget, hasN, blksLt, List.set, S13, eN, eSt])
        simp only at i1 i2 i3 i4 hs
        rw [hb]
        have hs' : ¬ 0 ≤ j := by omega
        have hz : upS n T (j + 1).toNat j = [] := by rw [show (j + 1).toNat = 0 by omega]; rfl
        rw [hz, List.reverse_nil, List.nil_append] at i4
        unfold c13b0
        simp [evCode, evOps, evOne, evOp, evPur, evEff, evPur.chunks, fillP, AOp.isEff, AO.ev, putP, PV.cells, PV.leaf, getB, getM, mapE, keyC, mapRows, mfind, eq1, eqL, scal, binP, unP, minP, maxP, foldP, PV.lt, PV.lt.ltL, endP, expoAll, expo, expo.expoL, frIds, frIds.frIdsL, nodupN, kill, cls, clsFuel, resO, RV.get, loadP, evC_p, evC_s, endS, endT, rowsOf, callP, thinL, unfr, unfr.unfrL, PV.noMem, PV.noMem.noMemL, optI, mapO, norm, trimT, trimB, forget, hasN, blksLt, List.set, S13, hs', stkL, stkE, c, c1, c2, ← i4, mid_get, mid_get2]
  · have c' : (chk n T == 0) = false := by simpa using c
    unfold c13
    simp [evCode, evOps, evOne, evOp, evPur, evEff, evPur.chunks, fillP, AOp.isEff, AO.ev, putP, PV.cells, PV.leaf, getB, getM, mapE, keyC, mapRows, mfind, eq1, eqL, scal, binP, unP, minP, maxP, foldP, PV.lt, PV.lt.ltL, endP, expoAll, expo, expo.expoL, frIds, frIds.frIdsL, nodupN, kill, cls, clsFuel, resO, RV.get, loadP, evC_p, evC_s, endS, endT, rowsOf, callP, thinL, unfr, unfr.unfrL, PV.noMem, PV.noMem.noMemL, optI, mapO, norm, trimT, trimB, forget, hasN, blksLt, List.set, eN, eSt, h16, c, c', stkL, stkE]
end Go.Proofs.Ytddlicbogbmpbaa
