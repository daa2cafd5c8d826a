/- itree: the greatest ends of the program. -/
import Derived.Test.YtkodjmlhmpokoaaItD
namespace Go.Proofs.Ytkodjmlhmpokoaa
open Go Go.RowKit
set_option linter.unusedVariables false
set_option linter.unusedSimpArgs false
set_option maxHeartbeats 4000000

def gt2 (m : List Int) (r q : Nat) : List Int := m.set r (if m.getD r 0 < m.getD q 0 then m.getD q 0 else m.getD r 0)
def mst (e : Nat → Int) : Nat → Nat → Nat → List Int → List Int
  | 0, _, _, m => m
  | f + 1, lo, hi, m => if hi ≤ lo then m else
    let r := (lo + hi) / 2
    let m2 := if lo < r then gt2 (mst e f lo r (m.set r (e r))) r ((lo + r) / 2) else m.set r (e r)
    if r + 1 < hi then gt2 (mst e f (r + 1) hi m2) r ((r + 1 + hi) / 2) else m2
theorem gt2_len (m : List Int) (r q : Nat) : (gt2 m r q).length = m.length := by simp [gt2]
theorem mst_len (e : Nat → Int) : ∀ f lo hi m, (mst e f lo hi m).length = m.length
  | 0, _, _, m => rfl
  | f + 1, lo, hi, m => by
    unfold mst
    simp only
    split
    · rfl
    · split <;> split <;> simp only [gt2_len, mst_len e f, List.length_set]
set_option maxRecDepth 100000 in
theorem f27 (x : Bool) (l : List Sp) (o : List Nat) (b1 b2 n : Nat) (hl : l.length ≤ 1000000) (ho : o.length = n) (hn : n ≤ 1000000) (hm : ∀ i ∈ o, i < l.length) : ∀ (f lo hi : Nat), hi - lo ≤ f → hi ≤ n → lo ≤ 1000001 → ∀ N G m, Fam b1 b2 n o N G → m.length = n →
    evS Dg 27 [eS x l, .agg [.own b1 n 0 n, .own b2 n 0 n], .int .i64 lo, .int .i64 hi] (G m) = some (.tup [], G (mst (endN l o) f lo hi m)) := by
  have base : ∀ (lo hi : Nat), hi ≤ lo → hi ≤ n → lo ≤ 1000001 → ∀ N G m, Fam b1 b2 n o N G → m.length = n →
      evS Dg 27 [eS x l, .agg [.own b1 n 0 n, .own b2 n 0 n], .int .i64 lo, .int .i64 hi] (G m) = some (.tup [], G m) := by
    intro lo hi hh hhn hlo N G m hG hml
    refine evS_intro 1 D27 rfl ?_
    have h1 : (hi : Int) ≤ lo := by omega
    have p0 := hG.len m
    have q0 := hG.lt m N (Nat.le_refl _)
    have hb0 : ∀ b, Nat.blt b 0 = false := fun b => by cases b <;> rfl
    have ht : ∀ y, (G m ++ [y]).take N = G m := fun y => by rw [← p0]; simp
    unfold c27
    generalize G m = bl at *
    simp [evCode, evOps, evOne, evOp, evPur, evEff, evPur.chunks, fillP, AOp.isEff, AO.ev, putP, PV.cells, PV.leaf, getB, getM, mapE, iterE, keyC, mapRows, mfind, eq1, eqL, scal, binP, unP, minP, maxP, foldP, PV.lt, PV.lt.ltL, endP, expoAll, expoG, expo, expo.expoL, frIds, frIds.frIdsL, nodupN, kill, cls, clsFuel, resO, RV.get, loadP, evC_p, evC_s, endS, endT, rowsOf, callP, thinL, unfr, unfr.unfrL, PV.noMem, PV.noMem.noMemL, optI, mapO, norm, trimT, trimB, forget, hasN, blksLt, List.set, softChk, softGo, softRd, effTg, rdP, eS, h1, p0, q0, hb0, ht]
  intro f
  induction f with
  | zero => exact fun lo hi h1 h2 h3 N G m hG hml => base lo hi (by omega) h2 h3 N G m hG hml
  | succ f ih =>
    intro lo hi h1 h2 h3 N G m hG hml
    by_cases hh : hi ≤ lo
    · have hg : mst (endN l o) (f + 1) lo hi m = m := by unfold mst; rw [if_pos hh]
      rw [hg]
      exact base lo hi hh h2 h3 N G m hG hml
    · have w1 := wrap_i64 ((lo : Int) + hi) (by omega) (by omega)
      have hr : Int.tdiv ((lo : Int) + hi) 2 = (((lo + hi) / 2 : Nat) : Int) := by
        rw [Int.tdiv_eq_ediv_of_nonneg (by omega)]; omega
      have hr1 : lo ≤ (lo + hi) / 2 := by omega
      have hr2 : (lo + hi) / 2 < hi := by omega
      rw [mst, if_neg hh]
      simp only
      generalize hre : (lo + hi) / 2 = r at *
      have w2 := wrap_i64 (r : Int) (by omega) (by omega)
      have w3 := wrap_i64 ((r : Int) + 1) (by omega) (by omega)
      have w4 := wrap_i64 ((lo : Int) + r) (by omega) (by omega)
      have w5 := wrap_i64 ((r : Int) + 1 + hi) (by omega) (by omega)
      have hq1 : Int.tdiv ((lo : Int) + r) 2 = (((lo + r) / 2 : Nat) : Int) := by
        rw [Int.tdiv_eq_ediv_of_nonneg (by omega)]; omega
      have hq2 : Int.tdiv ((r : Int) + 1 + hi) 2 = (((r + 1 + hi) / 2 : Nat) : Int) := by
        rw [Int.tdiv_eq_ediv_of_nonneg (by omega)]; omega
      have hqa : lo < r → (lo + r) / 2 < n := by omega
      have hqb : r + 1 < hi → (r + 1 + hi) / 2 < n := by omega
      generalize hqe1 : (lo + r) / 2 = u1 at *
      generalize hqe2 : (r + 1 + hi) / 2 = u2 at *
      have w6 := wrap_i64 (u1 : Int) (by omega) (by omega)
      have w7 := wrap_i64 (u2 : Int) (by omega) (by omega)
      have hF := hG.push
      have hF0 : G m ++ [some ⟨1, 2, false, [[.own b1 n 0 n, .own b2 n 0 n]]⟩] = (fun m => G m ++ [some (boxB b1 b2 n)]) m := rfl
      have hF2 : ∀ m, ((fun m => G m ++ [some (boxB b1 b2 n)]) m)[N]? = some (some ⟨1, 2, false, [[.own b1 n 0 n, .own b2 n 0 n]]⟩) := fun m => by simp only; rw [← hG.len m]; simp [boxB]
      have hF3 : ∀ m, ((fun m => G m ++ [some (boxB b1 b2 n)]) m).take N = G m := fun m => by simp only; rw [← hG.len m]; simp
      generalize (fun m => G m ++ [some (boxB b1 b2 n)]) = F at *
      have p0 := hG.len m
      have p1 := hF.len
      have p2 := hF.g1
      have p3 := hF.g2
      have p4 := hF.st
      have p5 := fun m => hG.lt m N (Nat.le_refl _)
      have p2g : ∀ m q, (F m)[b1]'q = some ⟨n, 1, true, nR o⟩ := fun m q => by
        have := p2 m
        rw [List.getElem?_eq_getElem q] at this
        exact Option.some.inj this
      have p3g : ∀ m q, (F m)[b2]'q = some ⟨n, 1, true, iR m⟩ := fun m q => by
        have := p3 m
        rw [List.getElem?_eq_getElem q] at this
        exact Option.some.inj this
      have p6g : ∀ m q, (F m)[N]'q = some ⟨1, 2, false, [[.own b1 n 0 n, .own b2 n 0 n]]⟩ := fun m q => by
        have := hF2 m
        rw [List.getElem?_eq_getElem q] at this
        exact Option.some.inj this
      have hop : o[r]? = some o[r] := List.getElem?_eq_getElem (by omega)
      have hil : o[r] < l.length := hm _ (List.getElem_mem _)
      have hsl : l[o[r]]? = some l[o[r]] := List.getElem?_eq_getElem hil
      have hend : endN l o r = (l[o[r]]).2 := by unfold endN; rw [hop]; simp only; rw [hsl]
      generalize l[o[r]] = s at *
      generalize o[r] = i at *
      have hnle : ¬ ((hi : Int) ≤ lo) := by omega
      have hrn : r < n := by omega
      have hrn' : (r : Int) < n := by omega
      have hil' : (i : Int) < l.length := by omega
      have r1 := nR_get hop
      have g1 := nR_got hop
      have r2 := spRows_get hsl
      have g2 := spRows_got hsl
      have eL := nR_len o
      have eM := iR_len
      have e1 := spRows_len l
      have iS := iR_set
      have hb0 : ∀ b, Nat.blt b 0 = false := fun b => by cases b <;> rfl
      have vf : ∀ (d : List Int), (iR d).all (PV.lt.ltL 0) = true := fun d => by
        rw [List.all_eq_true]
        intro y hy
        simp only [iR, List.mem_map] at hy
        obtain ⟨z, _, rfl⟩ := hy
        rfl
      have row : ∀ (d : List Int) (k : Nat), d.length = n → k < n → (iR d)[k]? = some [.int .i64 (d.getD k 0)] := fun d k h1 h2 => by
        rw [iR_get (z := d.getD k 0)]
        rw [List.getD_eq_getElem?_getD, List.getElem?_eq_getElem (by omega)]
        rfl
      have rowg : ∀ (d : List Int) (k : Nat), d.length = n → k < n → ∀ q, (iR d)[k]'q = [.int .i64 (d.getD k 0)] := fun d k h1 h2 q => by
        have := row d k h1 h2
        rw [List.getElem?_eq_getElem q] at this
        exact Option.some.inj this
      rw [hend]
      have ml1 : (m.set r s.2).length = n := by simp [hml]
      have i1 := ih lo r (by omega) (by omega) (by omega) _ F (m.set r s.2) hF ml1
      have x0 := rowg m r hml hrn
      have x1 := rowg _ r ml1 hrn
      generalize hm1 : m.set r s.2 = m1 at *
      refine evS_intro 1 D27 rfl ?_
      by_cases c1 : lo < r
      · have c1' : (lo : Int) < r := by omega
        have hu1 := hqa c1
        have hu1' : (u1 : Int) < n := by omega
        rw [if_pos c1]
        have ml2 : (mst (endN l o) f lo r m1).length = n := by rw [mst_len]; exact ml1
        generalize mst (endN l o) f lo r m1 = m2 at *
        have x2 := rowg m2 r ml2 hrn
        have x3 := rowg m2 u1 ml2 hu1
        have ml3 : (gt2 m2 r u1).length = n := by rw [gt2_len]; exact ml2
        have hg3 : gt2 m2 r u1 = m2.set r (if m2.getD r 0 < m2.getD u1 0 then m2.getD u1 0 else m2.getD r 0) := rfl
        by_cases c2 : r + 1 < hi
        · have c2' : (r : Int) + 1 < hi := by omega
          have hu2 := hqb c2
          have hu2' : (u2 : Int) < n := by omega
          rw [if_pos c2]
          have i2 := ih (r + 1) hi (by omega) (by omega) (by omega) _ F (gt2 m2 r u1) hF ml3
          have ml4 : (mst (endN l o) f (r + 1) hi (gt2 m2 r u1)).length = n := by rw [mst_len]; exact ml3
          generalize mst (endN l o) f (r + 1) hi (gt2 m2 r u1) = m4 at *
          generalize gt2 m2 r u1 = m3 at *
          generalize m2.getD r 0 = a2 at *
          generalize m2.getD u1 0 = a3 at *
          have x4 := rowg m4 r ml4 hrn
          have x5 := rowg m4 u2 ml4 hu2
          have hg4 : gt2 m4 r u2 = m4.set r (if m4.getD r 0 < m4.getD u2 0 then m4.getD u2 0 else m4.getD r 0) := rfl
          simp only [eS, Int.natCast_add, Int.cast_ofNat_Int] at i1 i2
          rw [hg4]
          unfold c27
          simp [evCode, evOps, evOne, evOp, evPur, evEff, evPur.chunks, fillP, AOp.isEff, AO.ev, putP, PV.cells, PV.leaf, getB, getM, mapE, iterE, keyC, mapRows, mfind, eq1, eqL, scal, binP, unP, minP, maxP, foldP, PV.lt, PV.lt.ltL, endP, expoAll, expoG, expo, expo.expoL, frIds, frIds.frIdsL, nodupN, kill, cls, clsFuel, resO, RV.get, loadP, evC_p, evC_s, endS, endT, rowsOf, callP, thinL, unfr, unfr.unfrL, PV.noMem, PV.noMem.noMemL, optI, mapO, norm, trimT, trimB, forget, hasN, blksLt, List.set, softChk, softGo, softRd, effTg, rdP, eS, e1, eL, eM, ho, hml, ml1, hnle, hrn, hrn', hil, hil', w1, hr, w2, w3, r1, g1, r2, g2, p0, p1, p2, p3, p4, p5, p2g, p3g, p6g, hb0, hF0, hF2, hF3, iS, vf, x0, hm1, c1', w4, hq1, w6, hu1, hu1', ml2, x2, x3, i1, ← hg3, c2', w5, hq2, w7, hu2, hu2', ml4, x4, x5, i2]
        · have c2' : ¬ (r : Int) + 1 < hi := by omega
          rw [if_neg c2]
          simp only [eS] at i1
          rw [hg3]
          unfold c27
          simp [evCode, evOps, evOne, evOp, evPur, evEff, evPur.chunks, fillP, AOp.isEff, AO.ev, putP, PV.cells, PV.leaf, getB, getM, mapE, iterE, keyC, mapRows, mfind, eq1, eqL, scal, binP, unP, minP, maxP, foldP, PV.lt, PV.lt.ltL, endP, expoAll, expoG, expo, expo.expoL, frIds, frIds.frIdsL, nodupN, kill, cls, clsFuel, resO, RV.get, loadP, evC_p, evC_s, endS, endT, rowsOf, callP, thinL, unfr, unfr.unfrL, PV.noMem, PV.noMem.noMemL, optI, mapO, norm, trimT, trimB, forget, hasN, blksLt, List.set, softChk, softGo, softRd, effTg, rdP, eS, e1, eL, eM, ho, hml, ml1, hnle, hrn, hrn', hil, hil', w1, hr, w2, w3, r1, g1, r2, g2, p0, p1, p2, p3, p4, p5, p2g, p3g, p6g, hb0, hF0, hF2, hF3, iS, vf, x0, hm1, c1', w4, hq1, w6, hu1, hu1', ml2, x2, x3, i1, c2']
      · have c1' : ¬ (lo : Int) < r := by omega
        rw [if_neg c1]
        by_cases c2 : r + 1 < hi
        · have c2' : (r : Int) + 1 < hi := by omega
          have hu2 := hqb c2
          have hu2' : (u2 : Int) < n := by omega
          rw [if_pos c2]
          have i2 := ih (r + 1) hi (by omega) (by omega) (by omega) _ F m1 hF ml1
          have ml4 : (mst (endN l o) f (r + 1) hi m1).length = n := by rw [mst_len]; exact ml1
          generalize mst (endN l o) f (r + 1) hi m1 = m4 at *
          have x4 := rowg m4 r ml4 hrn
          have x5 := rowg m4 u2 ml4 hu2
          have hg4 : gt2 m4 r u2 = m4.set r (if m4.getD r 0 < m4.getD u2 0 then m4.getD u2 0 else m4.getD r 0) := rfl
          simp only [eS, Int.natCast_add, Int.cast_ofNat_Int] at i2
          rw [hg4]
          unfold c27
          simp [evCode, evOps, evOne, evOp, evPur, evEff, evPur.chunks, fillP, AOp.isEff, AO.ev, putP, PV.cells, PV.leaf, getB, getM, mapE, iterE, keyC, mapRows, mfind, eq1, eqL, scal, binP, unP, minP, maxP, foldP, PV.lt, PV.lt.ltL, endP, expoAll, expoG, expo, expo.expoL, frIds, frIds.frIdsL, nodupN, kill, cls, clsFuel, resO, RV.get, loadP, evC_p, evC_s, endS, endT, rowsOf, callP, thinL, unfr, unfr.unfrL, PV.noMem, PV.noMem.noMemL, optI, mapO, norm, trimT, trimB, forget, hasN, blksLt, List.set, softChk, softGo, softRd, effTg, rdP, eS, e1, eL, eM, ho, hml, ml1, hnle, hrn, hrn', hil, hil', w1, hr, w2, w3, r1, g1, r2, g2, p0, p1, p2, p3, p4, p5, p2g, p3g, p6g, hb0, hF0, hF2, hF3, iS, vf, x0, hm1, c1', c2', w5, hq2, w7, hu2, hu2', ml4, x4, x5, i2]
        · have c2' : ¬ (r : Int) + 1 < hi := by omega
          rw [if_neg c2]
          unfold c27
          simp [evCode, evOps, evOne, evOp, evPur, evEff, evPur.chunks, fillP, AOp.isEff, AO.ev, putP, PV.cells, PV.leaf, getB, getM, mapE, iterE, keyC, mapRows, mfind, eq1, eqL, scal, binP, unP, minP, maxP, foldP, PV.lt, PV.lt.ltL, endP, expoAll, expoG, expo, expo.expoL, frIds, frIds.frIdsL, nodupN, kill, cls, clsFuel, resO, RV.get, loadP, evC_p, evC_s, endS, endT, rowsOf, callP, thinL, unfr, unfr.unfrL, PV.noMem, PV.noMem.noMemL, optI, mapO, norm, trimT, trimB, forget, hasN, blksLt, List.set, softChk, softGo, softRd, effTg, rdP, eS, e1, eL, eM, ho, hml, ml1, hnle, hrn, hrn', hil, hil', w1, hr, w2, w3, r1, g1, r2, g2, p0, p1, p2, p3, p4, p5, p2g, p3g, p6g, hb0, hF0, hF2, hF3, iS, vf, x0, hm1, c1', c2']
end Go.Proofs.Ytkodjmlhmpokoaa
