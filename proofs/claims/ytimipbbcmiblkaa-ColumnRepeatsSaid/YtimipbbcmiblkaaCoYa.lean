/- column: the reader's runs, the outer loop. -/
import Derived.Test.YtimipbbcmiblkaaCoY
namespace Go.Proofs.Ytimipbbcmiblkaa
open Go Go.RowKit
set_option linter.unusedVariables false
set_option linter.unusedSimpArgs false
set_option maxHeartbeats 4000000

def S39 (G : List Nat → Bool → Blks) (e N n : Nat) (q : Rs) : St := ⟨[.ptr e 1 0 0, .int .i64 (n : Int), .top, .top, .top, .own (N + 1) q.1.length 0 q.1.length] ++ List.replicate 39 .top, G q.2.1 q.2.2 ++ [nB3, oB q.1]⟩
def R39 (G : List Nat → Bool → Blks) (e N n : Nat) (q : Rs) (o : Out) : Prop :=
  (∃ z6 z7 z8 z9 z10 z11 z12 z13 z14 z15 z16 z17 z18, o = .exit 0 ⟨[.ptr e 1 0 0, .int .i64 (n : Int), .top, .top, .top, .own (N + 1) q.1.length 0 q.1.length, z6, z7, z8, z9, z10, z11, z12, z13, z14, z15, z16, z17, z18] ++ List.replicate 26 .top, G q.2.1 q.2.2 ++ [nB3, oB q.1]⟩) ∨
  (∃ s p v, o = .ret s ∧ q.1 = [] ∧ s.sl[4]?.getD .top = .own (N + 3) 0 0 0 ∧ s.bl = G q.2.1 q.2.2 ++ [nB3, oB p, vbx v, nB3])
set_option maxRecDepth 100000 in
theorem loop39 (e N : Nat) (G : List Nat → Bool → Blks) (hG : Rd2 e N G) (n fu : Nat) (hn : n ≤ 20000) (hf : n < fu) (L0 : List Nat) (f0 : Bool) (hl0 : L0.length ≤ 1000000) (ok0 : okB L0) :
    ∀ s0 E, evLoop (evCode (evC Dg) fu c39b1) [0, 1, 5] (N + 2) fu s0 = E → norm [0, 1, 5] (N + 2) s0 = S39 G e N n ([], L0, f0) → ∃ out, E = some out ∧ R39 G e N n (rnD n n ([], L0, f0)) out := by
  intro s0 E hE h0
  have gl := hG.len
  have he := hG.he
  have hb0 : ∀ b, Nat.blt b 0 = false := fun b => by cases b <;> rfl
  have H := loop_while (body := evCode (evC Dg) fu c39b1) (keep := [0, 1, 5]) (n0 := N + 2) (fuel := fu) (S39 G e N n) (fun q => n - q.1.length) (fun q => q.1.length ≤ n ∧ okB q.2.1 ∧ q.2.1.length ≤ 1000000 ∧ ∃ j, n - q.1.length ≤ j ∧ rnD n n ([], L0, f0) = rnD n j q) (R39 G e N n (rnD n n ([], L0, f0)))
    (by
      rintro ⟨o, L, f⟩ ⟨ho, ok, hL, j, hj, hp⟩
      simp only at ho ok hL hj hp
      have g1 : ∀ y : Blks, (G L f ++ y)[e]? = some (some ⟨1, 2, true, [[.sl false 1 (bR L), .bool f]]⟩) := fun y => by
        rw [List.getElem?_append_left (by rw [gl]; exact he)]; exact hG.get L f
      have g2 := fun y => got_of (g1 y)
      have eo := vRows_len o
      have heN : ∀ k, e < N + k := fun k => by omega
      by_cases c : o.length < n ∧ f = false
      · obtain ⟨c1, rfl⟩ := c
        obtain ⟨i, rfl⟩ : ∃ i, j = i + 1 := ⟨j - 1, by omega⟩
        rw [rnD, if_pos ⟨c1, rfl⟩] at hp
        have hA := hG.app [nB3, oB o] (flatO o)
        have h50 := f50 e (N + 2) _ hA.toRd L false hL ok
        have ok1 := ok.drop (dec L).2.1
        have l1 : (L.drop (dec L).2.1).length ≤ 1000000 := by simp; omega
        have h49 := f49 e (N + 2) _ hA (L.drop (dec L).2.1) (decide ((dec L).2.2 ≠ 0)) l1 ok1
        obtain ⟨v1, v2⟩ := valD_ok ok1
        simp only [Bool.false_or] at h50
        simp only at hp
        generalize decide ((dec L).2.2 ≠ 0) = fA at *
        generalize (dec L).1 = d at *
        generalize L.drop (dec L).2.1 = L1 at *
        generalize valD L1 = vd at *
        obtain ⟨v, L2, fB⟩ := vd
        simp only at h49 hp v1 v2
        have c1' : (o.length : Int) < n := by omega
        have w1 := wrap_i64 ((n : Int) - o.length) (by omega) (by omega)
        simp only [nB3, oB] at h50 h49
        simp only [vP] at h49
        by_cases hb : badR n o d
        · right
          rw [if_pos hb] at hp
          rw [hp]
          have g3 : ∀ y : Blks, (G L2 (fA || fB) ++ y)[e]? = some (some ⟨1, 2, true, [[.sl false 1 (bR L2), .bool (fA || fB)]]⟩) := fun y => by
            rw [List.getElem?_append_left (by rw [gl]; exact he)]; exact hG.get L2 (fA || fB)
          have g4 := fun y => got_of (g3 y)
          have gs := hG.set L2 (fA || fB) L2 true
          generalize (fA || fB) = fC at *
          refine (fun ⟨s, h1, h2, h3⟩ => ⟨.ret s, h1, fun _ h => (by cases h), .inr ⟨s, o, v, rfl, rfl, h2, h3⟩⟩ : (∃ s, _ ∧ _ ∧ _) → _) ?_
          by_cases d1 : d < 1
          · unfold c39b1
            simp [evCode, evOps, evOne, evOp, evPur, evEff, evPur.chunks, fillP, AOp.isEff, AO.ev, putP, PV.cells, PV.leaf, getB, getM, mapE, iterE, keyC, mapRows, mfind, eq1, eqL, scal, binP, unP, minP, maxP, foldP, PV.lt, PV.lt.ltL, endP, expoAll, expoG, expo, expo.expoL, frIds, frIds.frIdsL, nodupN, kill, cls, clsFuel, resO, RV.get, loadP, evC_p, evC_s, endS, endT, rowsOf, callP, thinL, unfr, unfr.unfrL, PV.noMem, PV.noMem.noMemL, optI, mapO, norm, trimT, trimB, forget, hasN, blksLt, List.set, softChk, softGo, softRd, effTg, rdP, S39, nB3, oB, vbx, gl, g1, g2, g3, g4, gs, eo, heN, c1', c1, h50, h49, d1, he, hb0]
          · have d2 : (n : Int) - o.length < d := by unfold badR at hb; omega
            unfold c39b1
            simp [evCode, evOps, evOne, evOp, evPur, evEff, evPur.chunks, fillP, AOp.isEff, AO.ev, putP, PV.cells, PV.leaf, getB, getM, mapE, iterE, keyC, mapRows, mfind, eq1, eqL, scal, binP, unP, minP, maxP, foldP, PV.lt, PV.lt.ltL, endP, expoAll, expoG, expo, expo.expoL, frIds, frIds.frIdsL, nodupN, kill, cls, clsFuel, resO, RV.get, loadP, evC_p, evC_s, endS, endT, rowsOf, callP, thinL, unfr, unfr.unfrL, PV.noMem, PV.noMem.noMemL, optI, mapO, norm, trimT, trimB, forget, hasN, blksLt, List.set, softChk, softGo, softRd, effTg, rdP, S39, nB3, oB, vbx, gl, g1, g2, g3, g4, gs, eo, heN, c1', c1, h50, h49, d1, d2, w1, he, hb0]
        · left
          rw [if_neg hb] at hp
          unfold badR at hb
          have d1 : ¬ d < 1 := by omega
          have d2 : ¬ (n : Int) - o.length < d := by omega
          obtain ⟨m, rfl⟩ : ∃ m : Nat, d = m := ⟨d.toNat, by omega⟩
          have hL := loop39i e N G hG n fu fu L2 (fA || fB) v m o (by omega) (by omega)
          rw [Int.toNat_natCast] at hp
          generalize (fA || fB) = fC at *
          have lr : (o ++ List.replicate m v).length = o.length + m := by simp
          have J : (o ++ List.replicate m v).length ≤ n ∧ okB L2 ∧ L2.length ≤ 1000000 ∧ ∃ j, n - (o ++ List.replicate m v).length ≤ j ∧ rnD n n ([], L0, f0) = rnD n j (o ++ List.replicate m v, L2, fC) := ⟨by omega, v1, by omega, i, by omega, hp⟩
          have K : n - (o ++ List.replicate m v).length < n - o.length := by omega
          generalize o ++ List.replicate m v = o' at *
          refine ⟨(o', L2, fC), ?_⟩
          refine (fun ⟨s', q1, q2⟩ => ⟨s', q1, q2, J, K⟩ : (∃ s', _ ∧ _) → _) ?_
          have gb := hG.fl L2 fC (N + 2) (by omega)
          have gb3 := hG.fl L2 fC (N + 3) (by omega)
          have gb4 : blksLt (N + 2) (G L2 fC ++ [nB3, oB o']) = true := (hG.app [nB3, oB o'] (flatO o')).fl L2 fC (N + 2) (Nat.le_refl _)
          simp only [nB3, oB] at gb4
          have tk : ∀ y : Blks, (G L2 fC ++ y).take (N + 2) = G L2 fC ++ y.take 2 := fun y => by
            rw [List.take_append, gl, List.take_of_length_le (by rw [gl]; omega), Nat.add_sub_cancel_left]
          have tk3 : ∀ y : Blks, y.length = 3 → (G L2 fC ++ y).take (N + 3) = G L2 fC ++ y := fun y hy => List.take_of_length_le (by rw [List.length_append, gl, hy]; exact Nat.le_refl _)
          have bt : Nat.blt e (N + 2) = true := blt_of (by omega)
          have bt2 : Nat.blt (N + 1) (N + 2) = true := blt_of (by omega)
          have bu : Nat.blt e (N + 3) = true := blt_of (by omega)
          have bu2 : Nat.blt (N + 1) (N + 3) = true := blt_of (by omega)
          have bu3 : Nat.blt (N + 2) (N + 3) = true := blt_of (by omega)
          unfold c39b1
          simp [evCode, evOps, evOne, evOp, evPur, evEff, evPur.chunks, fillP, AOp.isEff, AO.ev, putP, PV.cells, PV.leaf, getB, getM, mapE, iterE, keyC, mapRows, mfind, eq1, eqL, scal, binP, unP, minP, maxP, foldP, PV.lt, PV.lt.ltL, endP, expoAll, expoG, expo, expo.expoL, frIds, frIds.frIdsL, nodupN, kill, cls, clsFuel, resO, RV.get, loadP, evC_p, evC_s, endS, endT, rowsOf, callP, thinL, unfr, unfr.unfrL, PV.noMem, PV.noMem.noMemL, optI, mapO, norm, trimT, trimB, forget, hasN, blksLt, List.set, softChk, softGo, softRd, effTg, rdP, S39, nB3, oB, vbx, gl, g1, g2, eo, heN, c1', c1, h50, h49, d1, d2, w1, he, hb0]
          generalize hE : evLoop _ _ _ _ _ = E
          obtain ⟨out, rfl, z38, rfl⟩ := hL _ E hE (by simp [evCode, evOps, evOne, evOp, evPur, evEff, evPur.chunks, fillP, AOp.isEff, AO.ev, putP, PV.cells, PV.leaf, getB, getM, mapE, iterE, keyC, mapRows, mfind, eq1, eqL, scal, binP, unP, minP, maxP, foldP, PV.lt, PV.lt.ltL, endP, expoAll, expoG, expo, expo.expoL, frIds, frIds.frIdsL, nodupN, kill, cls, clsFuel, resO, RV.get, loadP, evC_p, evC_s, endS, endT, rowsOf, callP, thinL, unfr, unfr.unfrL, PV.noMem, PV.noMem.noMemL, optI, mapO, norm, trimT, trimB, forget, hasN, blksLt, List.set, softChk, softGo, softRd, effTg, rdP, S39i, nB3, oB, vbx, gl, gb3, tk3, bu, bu2, bu3, hb0])
          simp [evCode, evOps, evOne, evOp, evPur, evEff, evPur.chunks, fillP, AOp.isEff, AO.ev, putP, PV.cells, PV.leaf, getB, getM, mapE, iterE, keyC, mapRows, mfind, eq1, eqL, scal, binP, unP, minP, maxP, foldP, PV.lt, PV.lt.ltL, endP, expoAll, expoG, expo, expo.expoL, frIds, frIds.frIdsL, nodupN, kill, cls, clsFuel, resO, RV.get, loadP, evC_p, evC_s, endS, endT, rowsOf, callP, thinL, unfr, unfr.unfrL, PV.noMem, PV.noMem.noMemL, optI, mapO, norm, trimT, trimB, forget, hasN, blksLt, List.set, softChk, softGo, softRd, effTg, rdP, S39, nB3, oB, vbx, gl, gb, gb4, tk, bt, bt2, hb0]
      · right
        have hz : rnD n j (o, L, f) = (o, L, f) := by
          cases j with
          | zero => rfl
          | succ i => rw [rnD, if_neg c]
        rw [hp, hz]
        by_cases c1 : o.length < n
        · have cf : f = true := by cases f with
            | true => rfl
            | false => exact absurd ⟨c1, rfl⟩ c
          subst cf
          have c1' : (o.length : Int) < n := by omega
          unfold c39b1
          simp [evCode, evOps, evOne, evOp, evPur, evEff, evPur.chunks, fillP, AOp.isEff, AO.ev, putP, PV.cells, PV.leaf, getB, getM, mapE, iterE, keyC, mapRows, mfind, eq1, eqL, scal, binP, unP, minP, maxP, foldP, PV.lt, PV.lt.ltL, endP, expoAll, expoG, expo, expo.expoL, frIds, frIds.frIdsL, nodupN, kill, cls, clsFuel, resO, RV.get, loadP, evC_p, evC_s, endS, endT, rowsOf, callP, thinL, unfr, unfr.unfrL, PV.noMem, PV.noMem.noMemL, optI, mapO, norm, trimT, trimB, forget, hasN, blksLt, List.set, softChk, softGo, softRd, effTg, rdP, S39, R39, nB3, oB, gl, g1, g2, eo, heN, c1', c1]
        · have c1' : ¬ (o.length : Int) < n := by omega
          unfold c39b1
          simp [evCode, evOps, evOne, evOp, evPur, evEff, evPur.chunks, fillP, AOp.isEff, AO.ev, putP, PV.cells, PV.leaf, getB, getM, mapE, iterE, keyC, mapRows, mfind, eq1, eqL, scal, binP, unP, minP, maxP, foldP, PV.lt, PV.lt.ltL, endP, expoAll, expoG, expo, expo.expoL, frIds, frIds.frIdsL, nodupN, kill, cls, clsFuel, resO, RV.get, loadP, evC_p, evC_s, endS, endT, rowsOf, callP, thinL, unfr, unfr.unfrL, PV.noMem, PV.noMem.noMemL, optI, mapO, norm, trimT, trimB, forget, hasN, blksLt, List.set, softChk, softGo, softRd, effTg, rdP, S39, R39, nB3, oB, gl, g1, g2, eo, heN, c1', c1])
    ([], L0, f0) ⟨Nat.zero_le _, ok0, hl0, n, by simp, rfl⟩ (by simp only [List.length_nil]; omega) s0 E hE h0
  exact H
end Go.Proofs.Ytimipbbcmiblkaa
