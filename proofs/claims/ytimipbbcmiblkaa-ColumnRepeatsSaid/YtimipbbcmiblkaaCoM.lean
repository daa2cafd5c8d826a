/- column: the shortest coding, Encode. -/
import Derived.Test.YtimipbbcmiblkaaCoL
namespace Go.Proofs.Ytimipbbcmiblkaa
open Go Go.RowKit
set_option linter.unusedVariables false
set_option linter.unusedSimpArgs false
set_option maxHeartbeats 4000000

def sel (b : List Nat) (o : Option (List Nat)) : List Nat := match o with
  | none => b
  | some D => if D.length < b.length then D else b
def cods (k : Int) (l : List Val) : List (Option (List Nat)) := [some (runB l), difR k l, some (dicB l)]
def short (k : Int) (l : List Val) : List Nat := (cods k l).foldl sel (0 :: flB l)
def S23 (BL : Blks) (lb : Nat) (i : Nat) (q : Nat × List Nat) : St := ⟨[.top, .top, .top, .top, .top, .own q.1 q.2.length 0 q.2.length, .top, .top, .top, .top, .top, .top, .top, .top, .top, .top, .top, .own lb 3 0 3, .int .i64 3, .int .i64 (i : Int)] ++ List.replicate 15 .top, BL⟩
def Cell (BL : Blks) (o : Option (List Nat)) (p : PV) : Prop := match o with
  | none => p = .v (.slice none 0 0)
  | some D => ∃ b, p = .own b D.length 0 D.length ∧ BL[b]? = some (some ⟨D.length, 1, true, bR D⟩)
theorem foldl_take {α β : Type} (f : β → α → β) (b : β) {L : List α} {k : Nat} {a : α} (h : L[k]? = some a) : (L.take (k + 1)).foldl f b = f ((L.take k).foldl f b) a := by
  rw [List.take_add_one, h, List.foldl_append]
  rfl
theorem cods_ne (k : Int) (l : List Val) : ∀ D, some D ∈ cods k l → D ≠ [] := by
  intro D hD
  simp only [cods, List.mem_cons, List.not_mem_nil, or_false, Option.some.injEq] at hD
  rcases hD with rfl | h | rfl
  · simp [runB]
  · unfold difR at h
    split at h
    · cases h
    · cases hd : dif 0 l with
      | none => rw [hd] at h; cases h
      | some A => rw [hd] at h; simp at h; rw [h]; simp
  · simp [dicB]
set_option maxRecDepth 100000 in
theorem loop23 (BL : Blks) (lb : Nat) (R : List (List PV)) (L : List (Option (List Nat))) (hL : L.length = 3) (hne : ∀ D, some D ∈ L → D ≠ []) (hR : R.length = 3) (hb : BL[lb]? = some (some ⟨3, 1, false, R⟩)) (hc : ∀ (i : Nat) (o : Option (List Nat)), L[i]? = some o → ∃ p, R[i]? = some [p] ∧ Cell BL o p) (b0 : Nat) (B0 : List Nat) (h0 : BL[b0]? = some (some ⟨B0.length, 1, true, bR B0⟩)) :
    ∀ s0 E, evLoop (evCode (evC Dg) 5 c23b0) [5, 17, 18, 19] BL.length 5 s0 = E → norm [5, 17, 18, 19] BL.length s0 = S23 BL lb 0 (b0, B0) → (∃ b, BL[b]? = some (some ⟨(L.foldl sel B0).length, 1, true, bR (L.foldl sel B0)⟩) ∧ E = evCode (evC Dg) 5 c23b0 (S23 BL lb 3 (b, L.foldl sel B0))) := by
  intro s0 E hE hs
  have H := loop_inv (body := evCode (evC Dg) 5 c23b0) (keep := [5, 17, 18, 19]) (n0 := BL.length) (fuel := 5) L (S23 BL lb) (fun i q => q.2 = (L.take i).foldl sel B0 ∧ BL[q.1]? = some (some ⟨q.2.length, 1, true, bR q.2⟩)) (fun _ => False)
    (by
      rintro i o ⟨b, B⟩ hu hi ⟨hB, hbb⟩
      left
      simp only at hB hbb
      have hf := foldl_take sel B0 hu
      rw [← hB] at hf
      obtain ⟨p, hp, hcl⟩ := hc i o hu
      have hp' : ∀ g, R[i]'g = [p] := fun g => by
        rw [List.getElem?_eq_getElem g] at hp
        exact Option.some.inj hp
      have hi3 : i < 3 := by omega
      have hi' : (i : Int) < 3 := by omega
      have w1 := wrap_i64 ((i : Int) + 1) (by omega) (by omega)
      have gb := got_of hb
      have lb' := (List.getElem?_eq_some_iff.1 hb).1
      have gbb := got_of hbb
      have lbb := (List.getElem?_eq_some_iff.1 hbb).1
      have lB := bR_len B
      cases o with
      | none =>
        simp only [Cell] at hcl
        subst hcl
        refine ⟨(b, B), ?_⟩
        refine (fun ⟨s', q1, q2⟩ => ⟨s', q1, q2, by rw [hf]; rfl, hbb⟩ : (∃ s', _ ∧ _) → _) ?_
        unfold c23b0
        simp [evCode, evOps, evOne, evOp, evPur, evEff, evPur.chunks, fillP, AOp.isEff, AO.ev, putP, PV.cells, PV.leaf, getB, getM, mapE, iterE, keyC, mapRows, mfind, eq1, eqL, scal, binP, unP, minP, maxP, foldP, PV.lt, PV.lt.ltL, endP, expoAll, expoG, expo, expo.expoL, frIds, frIds.frIdsL, nodupN, kill, cls, clsFuel, resO, RV.get, loadP, evC_p, evC_s, endS, endT, rowsOf, callP, thinL, unfr, unfr.unfrL, PV.noMem, PV.noMem.noMemL, optI, mapO, norm, trimT, trimB, forget, hasN, blksLt, List.set, softChk, softGo, softRd, effTg, rdP, S23, hb, gb, lb', hp, hp', hR, hi3, hi', w1]
      | some D =>
        obtain ⟨c, rfl, hcc⟩ := hcl
        have gcc := got_of hcc
        have lcc := (List.getElem?_eq_some_iff.1 hcc).1
        cases D with
        | nil => exact absurd rfl (hne [] (List.mem_of_getElem? hu))
        | cons z D =>
          have lD := bR_len (z :: D)
          simp only [List.length_cons] at lD hcc gcc hp hp'
          by_cases cd : D.length + 1 < B.length
          · have cd' : (D.length : Int) + 1 < B.length := by omega
            have hsel : sel B (some (z :: D)) = z :: D := by simp [sel, cd]
            rw [hsel] at hf
            refine ⟨(c, z :: D), ?_⟩
            refine (fun ⟨s', q1, q2⟩ => ⟨s', q1, q2, hf.symm, by simpa using hcc⟩ : (∃ s', _ ∧ _) → _) ?_
            unfold c23b0
            simp [evCode, evOps, evOne, evOp, evPur, evEff, evPur.chunks, fillP, AOp.isEff, AO.ev, putP, PV.cells, PV.leaf, getB, getM, mapE, iterE, keyC, mapRows, mfind, eq1, eqL, scal, binP, unP, minP, maxP, foldP, PV.lt, PV.lt.ltL, endP, expoAll, expoG, expo, expo.expoL, frIds, frIds.frIdsL, nodupN, kill, cls, clsFuel, resO, RV.get, loadP, evC_p, evC_s, endS, endT, rowsOf, callP, thinL, unfr, unfr.unfrL, PV.noMem, PV.noMem.noMemL, optI, mapO, norm, trimT, trimB, forget, hasN, blksLt, List.set, softChk, softGo, softRd, effTg, rdP, S23, hb, gb, lb', hp, hp', hR, hi3, hi', w1, hcc, gcc, lcc, hbb, gbb, lbb, lB, lD, cd, cd']
          · have cd' : ¬ (D.length : Int) + 1 < B.length := by omega
            have hsel : sel B (some (z :: D)) = B := by simp [sel, cd]
            rw [hsel] at hf
            refine ⟨(b, B), ?_⟩
            refine (fun ⟨s', q1, q2⟩ => ⟨s', q1, q2, hf.symm, hbb⟩ : (∃ s', _ ∧ _) → _) ?_
            unfold c23b0
            simp [evCode, evOps, evOne, evOp, evPur, evEff, evPur.chunks, fillP, AOp.isEff, AO.ev, putP, PV.cells, PV.leaf, getB, getM, mapE, iterE, keyC, mapRows, mfind, eq1, eqL, scal, binP, unP, minP, maxP, foldP, PV.lt, PV.lt.ltL, endP, expoAll, expoG, expo, expo.expoL, frIds, frIds.frIdsL, nodupN, kill, cls, clsFuel, resO, RV.get, loadP, evC_p, evC_s, endS, endT, rowsOf, callP, thinL, unfr, unfr.unfrL, PV.noMem, PV.noMem.noMemL, optI, mapO, norm, trimT, trimB, forget, hasN, blksLt, List.set, softChk, softGo, softRd, effTg, rdP, S23, hb, gb, lb', hp, hp', hR, hi3, hi', w1, hcc, gcc, lcc, hbb, gbb, lbb, lB, lD, cd, cd'])
    (by
      rintro ⟨b, B⟩ _ s
      rw [hL]
      unfold c23b0
      simp [evCode, evOps, evOne, evOp, evPur, evEff, evPur.chunks, fillP, AOp.isEff, AO.ev, putP, PV.cells, PV.leaf, getB, getM, mapE, iterE, keyC, mapRows, mfind, eq1, eqL, scal, binP, unP, minP, maxP, foldP, PV.lt, PV.lt.ltL, endP, expoAll, expoG, expo, expo.expoL, frIds, frIds.frIdsL, nodupN, kill, cls, clsFuel, resO, RV.get, loadP, evC_p, evC_s, endS, endT, rowsOf, callP, thinL, unfr, unfr.unfrL, PV.noMem, PV.noMem.noMemL, optI, mapO, norm, trimT, trimB, forget, hasN, blksLt, List.set, softChk, softGo, softRd, effTg, rdP, S23])
    (by omega) (b0, B0) ⟨rfl, h0⟩ s0 E hE hs
  rw [hL] at H
  rcases H with ⟨⟨b, B⟩, ⟨h1, h2⟩, h3⟩ | ⟨_, _, h⟩
  · simp only at h1 h2
    rw [← hL, List.take_length] at h1
    rw [h1] at h2 h3
    exact ⟨b, h2, h3⟩
  · exact h.elim
def kB (A : List Nat) : Option Blk := some ⟨A.length, 1, true, bR A⟩
def nB1 : Option Blk := some ⟨0, 1, true, []⟩
set_option maxRecDepth 100000 in
theorem f23 (x : Bool) (k : Int) (l : List Val) (hl : l.length ≤ 20000) (hv : ∀ v ∈ l, okW v) : evE Dg 23 [.int .i64 k, eV x l] = some (.fr 1 (bR (short k l))) := by
  have h31 := f31 x l hl hv
  have h32 := f32 x l hl hv
  have h33 := f33 x k l hl
  have h34 := f34 x l hl hv
  have hb0 : ∀ b, Nat.blt b 0 = false := fun b => by cases b <;> rfl
  have hne := cods_ne k l
  have im : ∀ rows, impB (PV.fr 1 rows) = [⟨rows.length, 1, true, rows⟩] := fun _ => rfl
  have iv : ∀ k rows, impV k (PV.fr 1 rows) = .own k rows.length 0 rows.length := fun _ _ => rfl
  have im2 : impB (PV.v (.slice none 0 0)) = [] := rfl
  have iv2 : ∀ k, impV k (PV.v (.slice none 0 0)) = .v (.slice none 0 0) := fun _ => rfl
  have oc : (Value.slice none 0 0).oneCell' = true := rfl
  have hS : short k l = (cods k l).foldl sel (0 :: flB l) := rfl
  rw [hS]
  unfold cods at hne ⊢
  simp only [eV] at h31 h32 h33 h34
  generalize (0 :: flB l) = P at *
  generalize runB l = A at *
  generalize dicB l = D at *
  have lP := bR_len P
  have lA := bR_len A
  have lD := bR_len D
  cases hd : difR k l with
  | none =>
    rw [hd] at h33 hne
    simp only [resO3] at h33
    have H := loop23 [nB1, kB P, kB A, kB D, some ⟨3, 1, false, [[.own 2 A.length 0 A.length], [.v (.slice none 0 0)], [.own 3 D.length 0 D.length]]⟩] 4 _ [some A, none, some D] rfl hne rfl rfl (by
      rintro (_ | _ | _ | i) o ho
      · simp at ho; subst ho; exact ⟨_, rfl, 2, rfl, rfl⟩
      · simp at ho; subst ho; exact ⟨_, rfl, rfl⟩
      · simp at ho; subst ho; exact ⟨_, rfl, 3, rfl, rfl⟩
      · simp at ho) 1 P rfl
    generalize hB : List.foldl sel P [some A, none, some D] = B at *
    have lB := bR_len B
    refine evE_intro 5 D23 rfl ?_
    unfold c23
    simp [evCode, evOps, evOne, evOp, evPur, evEff, evPur.chunks, fillP, AOp.isEff, AO.ev, putP, PV.cells, PV.leaf, getB, getM, mapE, iterE, keyC, mapRows, mfind, eq1, eqL, scal, binP, unP, minP, maxP, foldP, PV.lt, PV.lt.ltL, endP, expoAll, expoG, expo, expo.expoL, frIds, frIds.frIdsL, nodupN, kill, cls, clsFuel, resO, RV.get, loadP, evC_p, evC_s, endS, endT, rowsOf, callP, thinL, unfr, unfr.unfrL, PV.noMem, PV.noMem.noMemL, optI, mapO, norm, trimT, trimB, forget, hasN, blksLt, List.set, softChk, softGo, softRd, effTg, rdP, eV, h31, h32, h33, h34, im, iv, im2, iv2, hb0, oc, lP, lA, lD]
    generalize hE : evLoop _ _ _ _ _ = E
    obtain ⟨b, h2, q2⟩ := H _ E hE (by simp [evCode, evOps, evOne, evOp, evPur, evEff, evPur.chunks, fillP, AOp.isEff, AO.ev, putP, PV.cells, PV.leaf, getB, getM, mapE, iterE, keyC, mapRows, mfind, eq1, eqL, scal, binP, unP, minP, maxP, foldP, PV.lt, PV.lt.ltL, endP, expoAll, expoG, expo, expo.expoL, frIds, frIds.frIdsL, nodupN, kill, cls, clsFuel, resO, RV.get, loadP, evC_p, evC_s, endS, endT, rowsOf, callP, thinL, unfr, unfr.unfrL, PV.noMem, PV.noMem.noMemL, optI, mapO, norm, trimT, trimB, forget, hasN, blksLt, List.set, softChk, softGo, softRd, effTg, rdP, S23, nB1, kB])
    rw [q2]
    generalize ([nB1, kB P, kB A, kB D, some ⟨3, 1, false, [[.own 2 A.length 0 A.length], [.v (.slice none 0 0)], [.own 3 D.length 0 D.length]]⟩] : Blks) = BL at h2 ⊢
    have g2 := got_of h2
    have l2 := (List.getElem?_eq_some_iff.1 h2).1
    unfold c23b0
    simp [evCode, evOps, evOne, evOp, evPur, evEff, evPur.chunks, fillP, AOp.isEff, AO.ev, putP, PV.cells, PV.leaf, getB, getM, mapE, iterE, keyC, mapRows, mfind, eq1, eqL, scal, binP, unP, minP, maxP, foldP, PV.lt, PV.lt.ltL, endP, expoAll, expoG, expo, expo.expoL, frIds, frIds.frIdsL, nodupN, kill, cls, clsFuel, resO, RV.get, loadP, evC_p, evC_s, endS, endT, rowsOf, callP, thinL, unfr, unfr.unfrL, PV.noMem, PV.noMem.noMemL, optI, mapO, norm, trimT, trimB, forget, hasN, blksLt, List.set, softChk, softGo, softRd, effTg, rdP, S23, h2, g2, l2, lB]
  | some T =>
    rw [hd] at h33 hne
    simp only [resO3] at h33
    have lT := bR_len T
    have H := loop23 [nB1, kB P, kB A, kB T, kB D, some ⟨3, 1, false, [[.own 2 A.length 0 A.length], [.own 3 T.length 0 T.length], [.own 4 D.length 0 D.length]]⟩] 5 _ [some A, some T, some D] rfl hne rfl rfl (by
      rintro (_ | _ | _ | i) o ho
      · simp at ho; subst ho; exact ⟨_, rfl, 2, rfl, rfl⟩
      · simp at ho; subst ho; exact ⟨_, rfl, 3, rfl, rfl⟩
      · simp at ho; subst ho; exact ⟨_, rfl, 4, rfl, rfl⟩
      · simp at ho) 1 P rfl
    generalize hB : List.foldl sel P [some A, some T, some D] = B at *
    have lB := bR_len B
    refine evE_intro 5 D23 rfl ?_
    unfold c23
    simp [evCode, evOps, evOne, evOp, evPur, evEff, evPur.chunks, fillP, AOp.isEff, AO.ev, putP, PV.cells, PV.leaf, getB, getM, mapE, iterE, keyC, mapRows, mfind, eq1, eqL, scal, binP, unP, minP, maxP, foldP, PV.lt, PV.lt.ltL, endP, expoAll, expoG, expo, expo.expoL, frIds, frIds.frIdsL, nodupN, kill, cls, clsFuel, resO, RV.get, loadP, evC_p, evC_s, endS, endT, rowsOf, callP, thinL, unfr, unfr.unfrL, PV.noMem, PV.noMem.noMemL, optI, mapO, norm, trimT, trimB, forget, hasN, blksLt, List.set, softChk, softGo, softRd, effTg, rdP, eV, h31, h32, h33, h34, im, iv, im2, iv2, hb0, oc, lP, lA, lD, lT]
    generalize hE : evLoop _ _ _ _ _ = E
    obtain ⟨b, h2, q2⟩ := H _ E hE (by simp [evCode, evOps, evOne, evOp, evPur, evEff, evPur.chunks, fillP, AOp.isEff, AO.ev, putP, PV.cells, PV.leaf, getB, getM, mapE, iterE, keyC, mapRows, mfind, eq1, eqL, scal, binP, unP, minP, maxP, foldP, PV.lt, PV.lt.ltL, endP, expoAll, expoG, expo, expo.expoL, frIds, frIds.frIdsL, nodupN, kill, cls, clsFuel, resO, RV.get, loadP, evC_p, evC_s, endS, endT, rowsOf, callP, thinL, unfr, unfr.unfrL, PV.noMem, PV.noMem.noMemL, optI, mapO, norm, trimT, trimB, forget, hasN, blksLt, List.set, softChk, softGo, softRd, effTg, rdP, S23, nB1, kB])
    rw [q2]
    generalize ([nB1, kB P, kB A, kB T, kB D, some ⟨3, 1, false, [[.own 2 A.length 0 A.length], [.own 3 T.length 0 T.length], [.own 4 D.length 0 D.length]]⟩] : Blks) = BL at h2 ⊢
    have g2 := got_of h2
    have l2 := (List.getElem?_eq_some_iff.1 h2).1
    unfold c23b0
    simp [evCode, evOps, evOne, evOp, evPur, evEff, evPur.chunks, fillP, AOp.isEff, AO.ev, putP, PV.cells, PV.leaf, getB, getM, mapE, iterE, keyC, mapRows, mfind, eq1, eqL, scal, binP, unP, minP, maxP, foldP, PV.lt, PV.lt.ltL, endP, expoAll, expoG, expo, expo.expoL, frIds, frIds.frIdsL, nodupN, kill, cls, clsFuel, resO, RV.get, loadP, evC_p, evC_s, endS, endT, rowsOf, callP, thinL, unfr, unfr.unfrL, PV.noMem, PV.noMem.noMemL, optI, mapO, norm, trimT, trimB, forget, hasN, blksLt, List.set, softChk, softGo, softRd, effTg, rdP, S23, h2, g2, l2, lB]
end Go.Proofs.Ytimipbbcmiblkaa
