/- column: the coding of runs. -/
import Derived.Test.YtimipbbcmiblkaaCoJ
namespace Go.Proofs.Ytimipbbcmiblkaa
open Go Go.RowKit
set_option linter.unusedVariables false
set_option linter.unusedSimpArgs false
set_option maxHeartbeats 4000000

def endR (l : List Val) (u : Val) : Nat → Nat → Nat
  | 0, j => j
  | f + 1, j => if l[j]? = some u then endR l u f (j + 1) else j
theorem endR_ge (l : List Val) (u : Val) : ∀ f j, j ≤ endR l u f j
  | 0, j => Nat.le_refl _
  | f + 1, j => by
    unfold endR
    split
    · have := endR_ge l u f (j + 1); omega
    · exact Nat.le_refl _
theorem endR_le (l : List Val) (u : Val) : ∀ f j, j ≤ l.length → endR l u f j ≤ l.length
  | 0, j, h => h
  | f + 1, j, h => by
    unfold endR
    split
    · rename_i hc
      have := (List.getElem?_eq_some_iff.1 hc).1
      exact endR_le l u f (j + 1) (by omega)
    · exact h
def runs (l : List Val) : Nat → Nat → List Nat
  | 0, _ => []
  | f + 1, i => match l[i]? with
    | none => []
    | some u => putI (((endR l u l.length (i + 1) - i : Nat) : Int)) ++ (vB u ++ runs l f (endR l u l.length (i + 1)))
def runB (l : List Val) : List Nat := 1 :: runs l l.length 0
def S32i (x : Bool) (l : List Val) (A : List Nat) (i j : Nat) : St := ⟨[eV x l, .top, .top, .own 1 A.length 0 A.length, .int .i64 (i : Int), .int .i64 (j : Int)] ++ List.replicate 38 .top, [some ⟨0, 1, true, []⟩, some ⟨A.length, 1, true, bR A⟩]⟩
def R32i (x : Bool) (l : List Val) (A : List Nat) (i e : Nat) (o : Out) : Prop := ∃ z13 z14 z15 z16 z17 z18 z19 z20 z21 z22 z23 z24 z25 z26 z27, o = .exit 2 ⟨[eV x l, .top, .top, .own 1 A.length 0 A.length, .int .i64 (i : Int), .int .i64 (e : Int), .top, .top, .top, .top, .top, .top, .top, z13, z14, z15, z16, z17, z18, z19, z20, z21, z22, z23, z24, z25, z26, z27] ++ List.replicate 16 .top, [some ⟨0, 1, true, []⟩, some ⟨A.length, 1, true, bR A⟩]⟩
theorem val_ne {w u : Val} (h : ¬ w = u) : ¬ w.1 = u.1 ∨ (w.1 = u.1 ∧ ¬ w.2.1 = u.2.1) ∨ (w.1 = u.1 ∧ w.2.1 = u.2.1 ∧ ¬ w.2.2 = u.2.2) := by
  obtain ⟨a, b, c⟩ := w
  obtain ⟨d, e, f⟩ := u
  by_cases h1 : a = d
  · by_cases h2 : b = e
    · by_cases h3 : c = f
      · exact absurd (by rw [h1, h2, h3]) h
      · exact .inr (.inr ⟨h1, h2, h3⟩)
    · exact .inr (.inl ⟨h1, h2⟩)
  · exact .inl h1
set_option maxRecDepth 100000 in
theorem loop32 (x : Bool) (l : List Val) (A : List Nat) (i : Nat) (u : Val) (fu : Nat) (hl : l.length ≤ 20000) (hu : l[i]? = some u) : ∀ s0 E, evLoop (evCode (evC Dg) fu c32b0) [0, 3, 4, 5] 2 (l.length + 1) s0 = E → norm [0, 3, 4, 5] 2 s0 = S32i x l A i (i + 1) → ∃ out, E = some out ∧ R32i x l A i (endR l u l.length (i + 1)) out := by
  intro s0 E hE h0
  have e1 := vRows_len l
  have hi := (List.getElem?_eq_some_iff.1 hu).1
  have hi' : (i : Int) < l.length := by omega
  have ru := vRows_get hu
  have gu := vRows_got hu
  have hb0 : ∀ b, Nat.blt b 0 = false := fun b => by cases b <;> rfl
  have n1 : Nat.blt 1 2 = true := rfl
  have H := loop_while (body := evCode (evC Dg) fu c32b0) (keep := [0, 3, 4, 5]) (n0 := 2) (fuel := l.length + 1) (S32i x l A i) (fun j => l.length - j) (fun j => j ≤ l.length ∧ ∃ f, l.length - j ≤ f ∧ endR l u l.length (i + 1) = endR l u f j) (R32i x l A i (endR l u l.length (i + 1)))
    (by
      rintro j ⟨hj, f, hf, he⟩
      by_cases hjl : j = l.length
      · right
        have : endR l u f j = j := by
          cases f with
          | zero => rfl
          | succ f => unfold endR; rw [if_neg (by rw [List.getElem?_eq_none (by omega)]; simp)]
        rw [he, this]
        have c1 : ¬ (j : Int) < l.length := by omega
        unfold c32b0
        simp [evCode, evOps, evOne, evOp, evPur, evEff, evPur.chunks, fillP, AOp.isEff, AO.ev, putP, PV.cells, PV.leaf, getB, getM, mapE, iterE, keyC, mapRows, mfind, eq1, eqL, scal, binP, unP, minP, maxP, foldP, PV.lt, PV.lt.ltL, endP, expoAll, expoG, expo, expo.expoL, frIds, frIds.frIdsL, nodupN, kill, cls, clsFuel, resO, RV.get, loadP, evC_p, evC_s, endS, endT, rowsOf, callP, thinL, unfr, unfr.unfrL, PV.noMem, PV.noMem.noMemL, optI, mapO, norm, trimT, trimB, forget, hasN, blksLt, List.set, softChk, softGo, softRd, effTg, rdP, S32i, R32i, eV, e1, c1]
      · have hjlt : j < l.length := by omega
        obtain ⟨f, rfl⟩ : ∃ g, f = g + 1 := ⟨f - 1, by omega⟩
        have c1 : (j : Int) < l.length := by omega
        have hw := List.getElem?_eq_getElem hjlt
        generalize l[j] = w at *
        have rw1 := vRows_get hw
        have gw := vRows_got hw
        by_cases huw : w = u
        · left
          subst huw
          have he2 : endR l w (f + 1) j = endR l w f (j + 1) := by rw [endR, if_pos hw]
          rw [he2] at he
          have J : j + 1 ≤ l.length ∧ ∃ g, l.length - (j + 1) ≤ g ∧ endR l w l.length (i + 1) = endR l w g (j + 1) := ⟨by omega, f, by omega, he⟩
          have K : l.length - (j + 1) < l.length - j := by omega
          refine ⟨j + 1, ?_⟩
          refine (fun ⟨s', q1, q2⟩ => ⟨s', q1, q2, J, K⟩ : (∃ s', _ ∧ _) → _) ?_
          have w1 := wrap_i64 ((j : Int) + 1) (by omega) (by omega)
          unfold c32b0
          simp [evCode, evOps, evOne, evOp, evPur, evEff, evPur.chunks, fillP, AOp.isEff, AO.ev, putP, PV.cells, PV.leaf, getB, getM, mapE, iterE, keyC, mapRows, mfind, eq1, eqL, scal, binP, unP, minP, maxP, foldP, PV.lt, PV.lt.ltL, endP, expoAll, expoG, expo, expo.expoL, frIds, frIds.frIdsL, nodupN, kill, cls, clsFuel, resO, RV.get, loadP, evC_p, evC_s, endS, endT, rowsOf, callP, thinL, unfr, unfr.unfrL, PV.noMem, PV.noMem.noMemL, optI, mapO, norm, trimT, trimB, forget, hasN, blksLt, List.set, softChk, softGo, softRd, effTg, rdP, S32i, eV, vRow, e1, c1, hjlt, hi, hi', ru, gu, rw1, gw, w1, hb0, n1]
        · right
          have he2 : endR l u (f + 1) j = j := by rw [endR, if_neg (by rw [hw]; simp [huw])]
          rw [he, he2]
          rcases val_ne huw with a | ⟨a, b⟩ | ⟨a, b, c⟩
          · unfold c32b0
            simp [evCode, evOps, evOne, evOp, evPur, evEff, evPur.chunks, fillP, AOp.isEff, AO.ev, putP, PV.cells, PV.leaf, getB, getM, mapE, iterE, keyC, mapRows, mfind, eq1, eqL, scal, binP, unP, minP, maxP, foldP, PV.lt, PV.lt.ltL, endP, expoAll, expoG, expo, expo.expoL, frIds, frIds.frIdsL, nodupN, kill, cls, clsFuel, resO, RV.get, loadP, evC_p, evC_s, endS, endT, rowsOf, callP, thinL, unfr, unfr.unfrL, PV.noMem, PV.noMem.noMemL, optI, mapO, norm, trimT, trimB, forget, hasN, blksLt, List.set, softChk, softGo, softRd, effTg, rdP, S32i, R32i, eV, vRow, e1, c1, hjlt, hi, hi', ru, gu, rw1, gw, a]
          · unfold c32b0
            simp [evCode, evOps, evOne, evOp, evPur, evEff, evPur.chunks, fillP, AOp.isEff, AO.ev, putP, PV.cells, PV.leaf, getB, getM, mapE, iterE, keyC, mapRows, mfind, eq1, eqL, scal, binP, unP, minP, maxP, foldP, PV.lt, PV.lt.ltL, endP, expoAll, expoG, expo, expo.expoL, frIds, frIds.frIdsL, nodupN, kill, cls, clsFuel, resO, RV.get, loadP, evC_p, evC_s, endS, endT, rowsOf, callP, thinL, unfr, unfr.unfrL, PV.noMem, PV.noMem.noMemL, optI, mapO, norm, trimT, trimB, forget, hasN, blksLt, List.set, softChk, softGo, softRd, effTg, rdP, S32i, R32i, eV, vRow, e1, c1, hjlt, hi, hi', ru, gu, rw1, gw, a, b]
          · unfold c32b0
            simp [evCode, evOps, evOne, evOp, evPur, evEff, evPur.chunks, fillP, AOp.isEff, AO.ev, putP, PV.cells, PV.leaf, getB, getM, mapE, iterE, keyC, mapRows, mfind, eq1, eqL, scal, binP, unP, minP, maxP, foldP, PV.lt, PV.lt.ltL, endP, expoAll, expoG, expo, expo.expoL, frIds, frIds.frIdsL, nodupN, kill, cls, clsFuel, resO, RV.get, loadP, evC_p, evC_s, endS, endT, rowsOf, callP, thinL, unfr, unfr.unfrL, PV.noMem, PV.noMem.noMemL, optI, mapO, norm, trimT, trimB, forget, hasN, blksLt, List.set, softChk, softGo, softRd, effTg, rdP, S32i, R32i, eV, vRow, e1, c1, hjlt, hi, hi', ru, gu, rw1, gw, a, b, c])
    (i + 1) ⟨by omega, l.length, by omega, rfl⟩ (by omega) s0 E hE h0
  exact H
end Go.Proofs.Ytimipbbcmiblkaa
