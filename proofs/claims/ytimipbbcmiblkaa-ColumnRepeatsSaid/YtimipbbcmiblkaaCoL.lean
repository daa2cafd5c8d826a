/- column: the coding of runs, whole. -/
import Derived.Test.YtimipbbcmiblkaaCoK
namespace Go.Proofs.Ytimipbbcmiblkaa
open Go Go.RowKit
set_option linter.unusedVariables false
set_option linter.unusedSimpArgs false
set_option maxHeartbeats 4000000

def S32 (x : Bool) (l : List Val) (q : Nat × List Nat) : St := ⟨[eV x l, .top, .top, .own 1 q.2.length 0 q.2.length, .int .i64 (q.1 : Int)] ++ List.replicate 39 .top, [some ⟨0, 1, true, []⟩, some ⟨q.2.length, 1, true, bR q.2⟩]⟩
def I32 (l : List Val) (q : Nat × List Nat) : Prop := q.1 ≤ l.length ∧ ∃ P, q.2 = 1 :: P ∧ P.length ≤ 221 * q.1 ∧ ∃ f, l.length - q.1 ≤ f ∧ runs l l.length 0 = P ++ runs l f q.1
def R32 (x : Bool) (l : List Val) (o : Out) : Prop := ∃ z7 z8 z9 z10, o = .exit 0 ⟨[eV x l, .top, .top, .own 1 (runB l).length 0 (runB l).length, .int .i64 (l.length : Int), .top, .top, z7, z8, z9, z10] ++ List.replicate 33 .top, [some ⟨0, 1, true, []⟩, some ⟨(runB l).length, 1, true, bR (runB l)⟩]⟩
theorem gb32 : Gb 1 2 (fun A => [some ⟨0, 1, true, []⟩, some ⟨A.length, 1, true, bR A⟩]) where
  len A := rfl
  get A := rfl
  set A A' := rfl
  lt A := by simp [blksLt]
  hc := by omega
set_option maxRecDepth 100000 in
theorem step32 (x : Bool) (l : List Val) (i : Nat) (A : List Nat) (u : Val) (fu : Nat) (hfu : fu = l.length + 1) (hl : l.length ≤ 20000) (hu : l[i]? = some u) (ok : okW u) (hA : A.length ≤ 5000000) :
    ∃ s', evCode (evC Dg) fu c32b1 (S32 x l (i, A)) = some (.normal s') ∧ norm [0, 3, 4] 2 s' = S32 x l (endR l u l.length (i + 1), A ++ putI (((endR l u l.length (i + 1) - i : Nat) : Int)) ++ vB u) := by
  have e1 := vRows_len l
  have hi := (List.getElem?_eq_some_iff.1 hu).1
  have hi' : (i : Int) < l.length := by omega
  have ru := vRows_get hu
  have gu := vRows_got hu
  have hb0 : ∀ b, Nat.blt b 0 = false := fun b => by cases b <;> rfl
  have n1 : Nat.blt 1 2 = true := rfl
  have hL := loop32 x l A i u fu hl hu
  have hge := endR_ge l u l.length (i + 1)
  have hle := endR_le l u l.length (i + 1) (by omega)
  generalize endR l u l.length (i + 1) = e at *
  have w1 := wrap_i64 ((i : Int) + 1) (by omega) (by omega)
  have w2 : IntKind.i64.wrap ((e : Int) - i) = ((e - i : Nat) : Int) := by rw [wrap_i64 _ (by omega) (by omega)]; omega
  have h45 := f45 ((e - i : Nat) : Int) (by omega) (by omega)
  have hpl := putI_len (n := ((e - i : Nat) : Int)) (by omega) (by omega)
  obtain ⟨d, hd⟩ := ex_eq (e - i)
  rw [hd] at w2 h45 hpl ⊢
  generalize putI (d : Int) = Q at *
  have h44 := f44 1 2 _ gb32 (A ++ Q) u ok.ok (by rw [List.length_append]; omega)
  generalize A ++ Q ++ vB u = B at *
  have lA := bR_len A
  have lQ := bR_len Q
  have aQ := bR_all Q
  have aQ' := bR_lt Q
  have m1 : (A.length + Q.length) * 1 ≤ 140737488355328 := by omega
  have m2 : A.length + Q.length ≤ 140737488355328 := by omega
  have tQ : (bR Q).take Q.length = bR Q := List.take_of_length_le (by rw [lQ]; exact Nat.le_refl _)
  have eA := bR_app A Q
  have lAQ : (A ++ Q).length = A.length + Q.length := List.length_append
  have im : ∀ rows, impB (PV.fr 1 rows) = [⟨rows.length, 1, true, rows⟩] := fun _ => rfl
  have iv : ∀ k rows, impV k (PV.fr 1 rows) = .own k rows.length 0 rows.length := fun _ _ => rfl
  simp only [vP, lAQ, eA] at h44
  subst hfu
  unfold c32b1
  simp [evCode, evOps, evOne, evOp, evPur, evEff, evPur.chunks, fillP, AOp.isEff, AO.ev, putP, PV.cells, PV.leaf, getB, getM, mapE, iterE, keyC, mapRows, mfind, eq1, eqL, scal, binP, unP, minP, maxP, foldP, PV.lt, PV.lt.ltL, endP, expoAll, expoG, expo, expo.expoL, frIds, frIds.frIdsL, nodupN, kill, cls, clsFuel, resO, RV.get, loadP, evC_p, evC_s, endS, endT, rowsOf, callP, thinL, unfr, unfr.unfrL, PV.noMem, PV.noMem.noMemL, optI, mapO, norm, trimT, trimB, forget, hasN, blksLt, List.set, softChk, softGo, softRd, effTg, rdP, S32, eV, e1, hi', w1]
  generalize hE : evLoop _ _ _ _ _ = E
  obtain ⟨out, rfl, z13, z14, z15, z16, z17, z18, z19, z20, z21, z22, z23, z24, z25, z26, z27, rfl⟩ := hL _ E hE (by simp [evCode, evOps, evOne, evOp, evPur, evEff, evPur.chunks, fillP, AOp.isEff, AO.ev, putP, PV.cells, PV.leaf, getB, getM, mapE, iterE, keyC, mapRows, mfind, eq1, eqL, scal, binP, unP, minP, maxP, foldP, PV.lt, PV.lt.ltL, endP, expoAll, expoG, expo, expo.expoL, frIds, frIds.frIdsL, nodupN, kill, cls, clsFuel, resO, RV.get, loadP, evC_p, evC_s, endS, endT, rowsOf, callP, thinL, unfr, unfr.unfrL, PV.noMem, PV.noMem.noMemL, optI, mapO, norm, trimT, trimB, forget, hasN, blksLt, List.set, softChk, softGo, softRd, effTg, rdP, S32i, eV, n1])
  unfold c32r0
  simp [evCode, evOps, evOne, evOp, evPur, evEff, evPur.chunks, fillP, AOp.isEff, AO.ev, putP, PV.cells, PV.leaf, getB, getM, mapE, iterE, keyC, mapRows, mfind, eq1, eqL, scal, binP, unP, minP, maxP, foldP, PV.lt, PV.lt.ltL, endP, expoAll, expoG, expo, expo.expoL, frIds, frIds.frIdsL, nodupN, kill, cls, clsFuel, resO, RV.get, loadP, evC_p, evC_s, endS, endT, rowsOf, callP, thinL, unfr, unfr.unfrL, PV.noMem, PV.noMem.noMemL, optI, mapO, norm, trimT, trimB, forget, hasN, blksLt, List.set, softChk, softGo, softRd, effTg, rdP, S32, eV, vRow, e1, hi, hi', ru, gu, w1, w2, h45, h44, im, iv, lA, lQ, aQ, aQ', m1, m2, tQ, hb0, eA, n1]
set_option maxRecDepth 100000 in
theorem loop32b (x : Bool) (l : List Val) (fu : Nat) (hfu : fu = l.length + 1) (hl : l.length ≤ 20000) (hv : ∀ v ∈ l, okW v) : ∀ s0 E, evLoop (evCode (evC Dg) fu c32b1) [0, 3, 4] 2 fu s0 = E → norm [0, 3, 4] 2 s0 = S32 x l (0, [1]) → ∃ out, E = some out ∧ R32 x l out := by
  intro s0 E hE h0
  have e1 := vRows_len l
  have H := loop_while (body := evCode (evC Dg) fu c32b1) (keep := [0, 3, 4]) (n0 := 2) (fuel := fu) (S32 x l) (fun q => l.length - q.1) (I32 l) (R32 x l)
    (by
      rintro ⟨i, A⟩ ⟨hi, P, hA, hP, f, hf, hr⟩
      simp only at hi hA hP hf hr
      by_cases hil : i = l.length
      · right
        have hz : runs l f i = [] := by
          cases f with
          | zero => rfl
          | succ f => unfold runs; rw [List.getElem?_eq_none (by omega)]
        have hB : A = runB l := by unfold runB; rw [hr, hz, List.append_nil, hA]
        subst hil
        rw [hB]
        unfold c32b1 R32
        generalize runB l = B at *
        simp [evCode, evOps, evOne, evOp, evPur, evEff, evPur.chunks, fillP, AOp.isEff, AO.ev, putP, PV.cells, PV.leaf, getB, getM, mapE, iterE, keyC, mapRows, mfind, eq1, eqL, scal, binP, unP, minP, maxP, foldP, PV.lt, PV.lt.ltL, endP, expoAll, expoG, expo, expo.expoL, frIds, frIds.frIdsL, nodupN, kill, cls, clsFuel, resO, RV.get, loadP, evC_p, evC_s, endS, endT, rowsOf, callP, thinL, unfr, unfr.unfrL, PV.noMem, PV.noMem.noMemL, optI, mapO, norm, trimT, trimB, forget, hasN, blksLt, List.set, softChk, softGo, softRd, effTg, rdP, S32, eV, e1]
      · left
        have hilt : i < l.length := by omega
        obtain ⟨g, rfl⟩ : ∃ g, f = g + 1 := ⟨f - 1, by omega⟩
        have hu := List.getElem?_eq_getElem hilt
        generalize l[i] = u at *
        have ok := hv u (List.mem_of_getElem? hu)
        obtain ⟨s', q1, q2⟩ := step32 x l i A u fu hfu hl hu ok (by rw [hA]; simp; omega)
        have hge := endR_ge l u l.length (i + 1)
        have hle := endR_le l u l.length (i + 1) (by omega)
        have hpl := putI_len (n := ((endR l u l.length (i + 1) - i : Nat) : Int)) (by omega) (by omega)
        have hvl := vB_len ok
        have hrr : runs l (g + 1) i = putI (((endR l u l.length (i + 1) - i : Nat) : Int)) ++ (vB u ++ runs l g (endR l u l.length (i + 1))) := by rw [runs, hu]
        rw [hrr] at hr
        generalize endR l u l.length (i + 1) = e at *
        refine ⟨(e, A ++ putI ((e - i : Nat) : Int) ++ vB u), s', q1, q2, ⟨hle, P ++ putI ((e - i : Nat) : Int) ++ vB u, by simp [hA], ?_, g, by simp only; omega, by rw [hr]; simp⟩, by simp only; omega⟩
        simp only [List.length_append]
        omega)
    (0, [1]) ⟨Nat.zero_le _, [], rfl, by simp, l.length, by simp, by simp⟩ (by simp only; omega) s0 E hE h0
  exact H
set_option maxRecDepth 100000 in
theorem f32 (x : Bool) (l : List Val) (hl : l.length ≤ 20000) (hv : ∀ v ∈ l, okW v) : evE Dg 32 [eV x l] = some (.fr 1 (bR (runB l))) := by
  have e1 := vRows_len l
  have hL := loop32b x l (l.length + 1) rfl hl hv
  refine evE_intro (l.length + 1) D32 rfl ?_
  unfold c32
  simp [evCode, evOps, evOne, evOp, evPur, evEff, evPur.chunks, fillP, AOp.isEff, AO.ev, putP, PV.cells, PV.leaf, getB, getM, mapE, iterE, keyC, mapRows, mfind, eq1, eqL, scal, binP, unP, minP, maxP, foldP, PV.lt, PV.lt.ltL, endP, expoAll, expoG, expo, expo.expoL, frIds, frIds.frIdsL, nodupN, kill, cls, clsFuel, resO, RV.get, loadP, evC_p, evC_s, endS, endT, rowsOf, callP, thinL, unfr, unfr.unfrL, PV.noMem, PV.noMem.noMemL, optI, mapO, norm, trimT, trimB, forget, hasN, blksLt, List.set, softChk, softGo, softRd, effTg, rdP, eV, e1]
  generalize hE : evLoop _ _ _ _ _ = E
  obtain ⟨out, rfl, z7, z8, z9, z10, rfl⟩ := hL _ E hE (by simp [evCode, evOps, evOne, evOp, evPur, evEff, evPur.chunks, fillP, AOp.isEff, AO.ev, putP, PV.cells, PV.leaf, getB, getM, mapE, iterE, keyC, mapRows, mfind, eq1, eqL, scal, binP, unP, minP, maxP, foldP, PV.lt, PV.lt.ltL, endP, expoAll, expoG, expo, expo.expoL, frIds, frIds.frIdsL, nodupN, kill, cls, clsFuel, resO, RV.get, loadP, evC_p, evC_s, endS, endT, rowsOf, callP, thinL, unfr, unfr.unfrL, PV.noMem, PV.noMem.noMemL, optI, mapO, norm, trimT, trimB, forget, hasN, blksLt, List.set, softChk, softGo, softRd, effTg, rdP, S32, eV, e1, bR])
  have lB := bR_len (runB l)
  simp [evCode, evOps, evOne, evOp, evPur, evEff, evPur.chunks, fillP, AOp.isEff, AO.ev, putP, PV.cells, PV.leaf, getB, getM, mapE, iterE, keyC, mapRows, mfind, eq1, eqL, scal, binP, unP, minP, maxP, foldP, PV.lt, PV.lt.ltL, endP, expoAll, expoG, expo, expo.expoL, frIds, frIds.frIdsL, nodupN, kill, cls, clsFuel, resO, RV.get, loadP, evC_p, evC_s, endS, endT, rowsOf, callP, thinL, unfr, unfr.unfrL, PV.noMem, PV.noMem.noMemL, optI, mapO, norm, trimT, trimB, forget, hasN, blksLt, List.set, softChk, softGo, softRd, effTg, rdP, eV, lB]
end Go.Proofs.Ytimipbbcmiblkaa
