/- column: the shortest coding, Encode. -/
import Derived.Test.YtimipbbcmiblkaaCoL
import Derived.Test.YtimipbbcmiblkaaCoA
namespace Go.Proofs.Ytimipbbcmiblkaa
open Go Go.RowKit
set_option linter.unusedVariables false
set_option linter.unusedSimpArgs false
set_option maxHeartbeats 4000000

def sel (b : List Nat) (o : Option (List Nat)) : List Nat := match o with
  | none => b
  | some D => if D.length < b.length then D else b
def ePV (o : Option (List Nat)) : PV := match o with
  | none => .v (.slice none 0 0)
  | some D => .sl false 1 (bR D)
def oRows (L : List (Option (List Nat))) : List (List PV) := L.map fun o => [ePV o]
theorem oRows_len (L : List (Option (List Nat))) : (oRows L).length = L.length := by simp [oRows]
theorem oRows_get {L : List (Option (List Nat))} {k : Nat} {q : Option (List Nat)} (h : L[k]? = some q) : (oRows L)[k]? = some [ePV q] := by simp [oRows, h]
theorem oRows_got {L : List (Option (List Nat))} {k : Nat} {q : Option (List Nat)} (h : L[k]? = some q) : ∀ g, (oRows L)[k]'g = [ePV q] := fun g => by
  have := oRows_get h
  rw [List.getElem?_eq_getElem g] at this
  exact Option.some.inj this
def cods (k : Int) (l : List Val) : List (Option (List Nat)) := [some (runB l), difR k l, some (dicB l)]
def short (k : Int) (l : List Val) : List Nat := (cods k l).foldl sel (0 :: flB l)
def S23 (L : List (Option (List Nat))) (i : Nat) (B : List Nat) : St := ⟨[.top, .top, .top, .top, .top, .sl false 1 (bR B), .top, .top, .top, .top, .top, .top, .top, .top, .top, .top, .top, .sl true 1 (oRows L), .int .i64 (L.length : Int), .int .i64 (i : Int)] ++ List.replicate 15 .top, [some ⟨0, 1, true, []⟩]⟩
theorem foldl_take {α β : Type} (f : β → α → β) (b : β) {L : List α} {k : Nat} {a : α} (h : L[k]? = some a) : (L.take (k + 1)).foldl f b = f ((L.take k).foldl f b) a := by
  rw [List.take_add_one, h, List.foldl_append]
  rfl
theorem cods_ne (k : Int) (l : List Val) : ∀ D, some D ∈ cods k l → D ≠ [] := by
  intro D hD
  simp only [cods, List.mem_cons, List.not_mem_nil, or_false, Option.some.injEq] at hD
  rcases hD with rfl | h | rfl
  · simp [runB]
  · unfold difR at h
    split at h
    · cases h
    · cases hd : dif 0 l with
      | none => rw [hd] at h; cases h
      | some A => rw [hd] at h; simp at h; rw [h]; simp
  · simp [dicB]
set_option maxRecDepth 100000 in
theorem f23 (x : Bool) (k : Int) (l : List Val) (hl : l.length ≤ 20000) (hv : ∀ v ∈ l, okW v) : evE Dg 23 [.int .i64 k, eV x l] = some (.sl false 1 (bR (short k l))) := by
  have h31 := f31 x l hl hv
  have h32 := f32 x l hl hv
  have h33 := f33 x k l hl
  have h34 := f34 x l hl hv
  have hb0 : ∀ b, Nat.blt b 0 = false := fun b => by cases b <;> rfl
  have hne := cods_ne k l
  have e1 := oRows_len (cods k l)
  have hL3 : (cods k l).length = 3 := rfl
  have H := loop_inv (body := evCode (evC Dg) 5 c23b0) (keep := [5, 17, 18, 19]) (n0 := 1) (fuel := 5) (cods k l) (S23 (cods k l)) (fun i B => B = ((cods k l).take i).foldl sel (0 :: flB l)) (fun _ => False)
    (by
      rintro i o B hu hi hB
      left
      have hf := foldl_take sel (0 :: flB l) hu
      rw [← hB] at hf
      have r1 := oRows_get hu
      have g1 := oRows_got hu
      have hi' : (i : Int) < (cods k l).length := by omega
      have w1 := wrap_i64 ((i : Int) + 1) (by omega) (by omega)
      have hm := List.mem_of_getElem? hu
      refine ⟨sel B o, hf.symm ▸ ?_⟩
      have J : sel B o = ((cods k l).take (i + 1)).foldl sel (0 :: flB l) := hf.symm
      refine (fun ⟨s', q1, q2⟩ => ⟨s', q1, q2, rfl⟩ : (∃ s', _ ∧ _) → _) ?_
      clear J hf hB
      generalize cods k l = L at *
      have lB := bR_len B
      cases o with
      | none =>
        simp only [ePV] at r1 g1
        unfold c23b0
        simp [evCode, evOps, evOne, evOp, evPur, evEff, evPur.chunks, fillP, AOp.isEff, AO.ev, putP, PV.cells, PV.leaf, getB, getM, mapE, iterE, keyC, mapRows, mfind, eq1, eqL, scal, binP, unP, minP, maxP, foldP, PV.lt, PV.lt.ltL, endP, expoAll, expoG, expo, expo.expoL, frIds, frIds.frIdsL, nodupN, kill, cls, clsFuel, resO, RV.get, loadP, evC_p, evC_s, endS, endT, rowsOf, callP, thinL, unfr, unfr.unfrL, PV.noMem, PV.noMem.noMemL, optI, mapO, norm, trimT, trimB, forget, hasN, blksLt, List.set, softChk, softGo, softRd, effTg, rdP, S23, e1, r1, g1, hi', hi, w1, sel]
      | some D =>
        cases D with
        | nil => exact absurd rfl (hne [] hm)
        | cons z D =>
          have e4 : bR (z :: D) = [PV.int .u8 (z : Int)] :: bR D := rfl
          have lD := bR_len D
          simp only [ePV, e4] at r1 g1
          by_cases c : D.length + 1 < B.length
          · have c' : (D.length : Int) + 1 < B.length := by omega
            unfold c23b0
            simp [evCode, evOps, evOne, evOp, evPur, evEff, evPur.chunks, fillP, AOp.isEff, AO.ev, putP, PV.cells, PV.leaf, getB, getM, mapE, iterE, keyC, mapRows, mfind, eq1, eqL, scal, binP, unP, minP, maxP, foldP, PV.lt, PV.lt.ltL, endP, expoAll, expoG, expo, expo.expoL, frIds, frIds.frIdsL, nodupN, kill, cls, clsFuel, resO, RV.get, loadP, evC_p, evC_s, endS, endT, rowsOf, callP, thinL, unfr, unfr.unfrL, PV.noMem, PV.noMem.noMemL, optI, mapO, norm, trimT, trimB, forget, hasN, blksLt, List.set, softChk, softGo, softRd, effTg, rdP, S23, e1, r1, g1, hi', hi, w1, sel, lB, lD, c, c', e4]
          · have c' : ¬ (D.length : Int) + 1 < B.length := by omega
            unfold c23b0
            simp [evCode, evOps, evOne, evOp, evPur, evEff, evPur.chunks, fillP, AOp.isEff, AO.ev, putP, PV.cells, PV.leaf, getB, getM, mapE, iterE, keyC, mapRows, mfind, eq1, eqL, scal, binP, unP, minP, maxP, foldP, PV.lt, PV.lt.ltL, endP, expoAll, expoG, expo, expo.expoL, frIds, frIds.frIdsL, nodupN, kill, cls, clsFuel, resO, RV.get, loadP, evC_p, evC_s, endS, endT, rowsOf, callP, thinL, unfr, unfr.unfrL, PV.noMem, PV.noMem.noMemL, optI, mapO, norm, trimT, trimB, forget, hasN, blksLt, List.set, softChk, softGo, softRd, effTg, rdP, S23, e1, r1, g1, hi', hi, w1, sel, lB, lD, c, c', e4])
    (by
      rintro B _ s
      unfold c23b0
      simp [evCode, evOps, evOne, evOp, evPur, evEff, evPur.chunks, fillP, AOp.isEff, AO.ev, putP, PV.cells, PV.leaf, getB, getM, mapE, iterE, keyC, mapRows, mfind, eq1, eqL, scal, binP, unP, minP, maxP, foldP, PV.lt, PV.lt.ltL, endP, expoAll, expoG, expo, expo.expoL, frIds, frIds.frIdsL, nodupN, kill, cls, clsFuel, resO, RV.get, loadP, evC_p, evC_s, endS, endT, rowsOf, callP, thinL, unfr, unfr.unfrL, PV.noMem, PV.noMem.noMemL, optI, mapO, norm, trimT, trimB, forget, hasN, blksLt, List.set, softChk, softGo, softRd, effTg, rdP, S23, e1])
    (by rw [hL3]; omega) (0 :: flB l) rfl
  have hO : oRows (cods k l) = [[.sl false 1 (bR (runB l))], [ePV (difR k l)], [.sl false 1 (bR (dicB l))]] := rfl
  have im : ∀ rows, impB (PV.fr 1 rows) = [⟨rows.length, 1, true, rows⟩] := fun _ => rfl
  have iv : ∀ k rows, impV k (PV.fr 1 rows) = .own k rows.length 0 rows.length := fun _ _ => rfl
  have oc : (Value.slice none 0 0).oneCell' = true := rfl
  simp only [eV] at h31 h32 h33 h34
  refine evE_intro 5 D23 rfl ?_
  unfold c23
  cases hd : difR k l with
  | none =>
    rw [hd] at h33 hO
    simp only [resO3] at h33
    simp only [ePV] at hO
    simp [evCode, evOps, evOne, evOp, evPur, evEff, evPur.chunks, fillP, AOp.isEff, AO.ev, putP, PV.cells, PV.leaf, getB, getM, mapE, iterE, keyC, mapRows, mfind, eq1, eqL, scal, binP, unP, minP, maxP, foldP, PV.lt, PV.lt.ltL, endP, expoAll, expoG, expo, expo.expoL, frIds, frIds.frIdsL, nodupN, kill, cls, clsFuel, resO, RV.get, loadP, evC_p, evC_s, endS, endT, rowsOf, callP, thinL, unfr, unfr.unfrL, PV.noMem, PV.noMem.noMemL, optI, mapO, norm, trimT, trimB, forget, hasN, blksLt, List.set, softChk, softGo, softRd, effTg, rdP, eV, h31, h32, h33, h34, im, iv, hb0, oc]
    generalize hE : evLoop _ _ _ _ _ = E
    rcases H _ _ hE (by simp [evCode, evOps, evOne, evOp, evPur, evEff, evPur.chunks, fillP, AOp.isEff, AO.ev, putP, PV.cells, PV.leaf, getB, getM, mapE, iterE, keyC, mapRows, mfind, eq1, eqL, scal, binP, unP, minP, maxP, foldP, PV.lt, PV.lt.ltL, endP, expoAll, expoG, expo, expo.expoL, frIds, frIds.frIdsL, nodupN, kill, cls, clsFuel, resO, RV.get, loadP, evC_p, evC_s, endS, endT, rowsOf, callP, thinL, unfr, unfr.unfrL, PV.noMem, PV.noMem.noMemL, optI, mapO, norm, trimT, trimB, forget, hasN, blksLt, List.set, softChk, softGo, softRd, effTg, rdP, S23, hO, hL3]) with ⟨B, hB, q2⟩ | ⟨_, _, q3⟩
    · rw [q2]
      have hBs : B = short k l := by rw [hB, List.take_length]; rfl
      rw [← hBs]
      unfold c23b0
      simp [evCode, evOps, evOne, evOp, evPur, evEff, evPur.chunks, fillP, AOp.isEff, AO.ev, putP, PV.cells, PV.leaf, getB, getM, mapE, iterE, keyC, mapRows, mfind, eq1, eqL, scal, binP, unP, minP, maxP, foldP, PV.lt, PV.lt.ltL, endP, expoAll, expoG, expo, expo.expoL, frIds, frIds.frIdsL, nodupN, kill, cls, clsFuel, resO, RV.get, loadP, evC_p, evC_s, endS, endT, rowsOf, callP, thinL, unfr, unfr.unfrL, PV.noMem, PV.noMem.noMemL, optI, mapO, norm, trimT, trimB, forget, hasN, blksLt, List.set, softChk, softGo, softRd, effTg, rdP, S23, e1]
    · exact q3.elim
  | some D =>
    rw [hd] at h33 hO
    simp only [resO3] at h33
    simp only [ePV] at hO
    simp [evCode, evOps, evOne, evOp, evPur, evEff, evPur.chunks, fillP, AOp.isEff, AO.ev, putP, PV.cells, PV.leaf, getB, getM, mapE, iterE, keyC, mapRows, mfind, eq1, eqL, scal, binP, unP, minP, maxP, foldP, PV.lt, PV.lt.ltL, endP, expoAll, expoG, expo, expo.expoL, frIds, frIds.frIdsL, nodupN, kill, cls, clsFuel, resO, RV.get, loadP, evC_p, evC_s, endS, endT, rowsOf, callP, thinL, unfr, unfr.unfrL, PV.noMem, PV.noMem.noMemL, optI, mapO, norm, trimT, trimB, forget, hasN, blksLt, List.set, softChk, softGo, softRd, effTg, rdP, eV, h31, h32, h33, h34, im, iv, hb0, oc]
    generalize hE : evLoop _ _ _ _ _ = E
    rcases H _ _ hE (by simp [evCode, evOps, evOne, evOp, evPur, evEff, evPur.chunks, fillP, AOp.isEff, AO.ev, putP, PV.cells, PV.leaf, getB, getM, mapE, iterE, keyC, mapRows, mfind, eq1, eqL, scal, binP, unP, minP, maxP, foldP, PV.lt, PV.lt.ltL, endP, expoAll, expoG, expo, expo.expoL, frIds, frIds.frIdsL, nodupN, kill, cls, clsFuel, resO, RV.get, loadP, evC_p, evC_s, endS, endT, rowsOf, callP, thinL, unfr, unfr.unfrL, PV.noMem, PV.noMem.noMemL, optI, mapO, norm, trimT, trimB, forget, hasN, blksLt, List.set, softChk, softGo, softRd, effTg, rdP, S23, hO, hL3]) with ⟨B, hB, q2⟩ | ⟨_, _, q3⟩
    · rw [q2]
      have hBs : B = short k l := by rw [hB, List.take_length]; rfl
      rw [← hBs]
      unfold c23b0
      simp [evCode, evOps, evOne, evOp, evPur, evEff, evPur.chunks, fillP, AOp.isEff, AO.ev, putP, PV.cells, PV.leaf, getB, getM, mapE, iterE, keyC, mapRows, mfind, eq1, eqL, scal, binP, unP, minP, maxP, foldP, PV.lt, PV.lt.ltL, endP, expoAll, expoG, expo, expo.expoL, frIds, frIds.frIdsL, nodupN, kill, cls, clsFuel, resO, RV.get, loadP, evC_p, evC_s, endS, endT, rowsOf, callP, thinL, unfr, unfr.unfrL, PV.noMem, PV.noMem.noMemL, optI, mapO, norm, trimT, trimB, forget, hasN, blksLt, List.set, softChk, softGo, softRd, effTg, rdP, S23, e1]
    · exact q3.elim
end Go.Proofs.Ytimipbbcmiblkaa
