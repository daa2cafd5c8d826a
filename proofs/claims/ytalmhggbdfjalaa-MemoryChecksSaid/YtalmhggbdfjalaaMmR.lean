/- Peak of the layer, whole. -/
import Derived.Test.YtalmhggbdfjalaaMmQ
namespace Go.Proofs.Ytalmhggbdfjalaa
open Go Go.RowKit
set_option linter.unusedVariables false
set_option linter.unusedSectionVars false
set_option linter.unusedSimpArgs false
set_option maxHeartbeats 4000000

theorem chg_len (l : List Bk) : ∀ o : List Sp, (l.foldl chgN o).length = o.length + 2 * l.length := by
  induction l with
  | nil => intro o; simp
  | cons b l ih =>
    intro o
    rw [List.foldl_cons, ih]
    simp [chgN]
    omega
theorem chg_mem (l : List Bk) : ∀ (o : List Sp) (c : Sp), c ∈ l.foldl chgN o ↔ c ∈ o ∨ ∃ b ∈ l, c = (b.f, b.s) ∨ c = (b.e, -b.s) := by
  induction l with
  | nil => intro o c; simp
  | cons b l ih =>
    intro o c
    rw [List.foldl_cons, ih]
    simp only [chgN, List.mem_append, List.mem_cons, List.not_mem_nil, or_false]
    constructor
    · rintro ((h | h) | ⟨d, h1, h2⟩)
      · exact .inl h
      · exact .inr ⟨b, .inl rfl, h⟩
      · exact .inr ⟨d, .inr h1, h2⟩
    · rintro (h | ⟨d, rfl | h1, h2⟩)
      · exact .inl (.inl h)
      · exact .inl (.inr h2)
      · exact .inr ⟨d, h1, h2⟩
def X18b (R : List Sp) (x : Int × Int × Int) : St := ⟨[.top, .top, .top, .top, .own 0 R.length 0 R.length, .top, .top, .int .i64 x.1, .int .i64 x.2.1, .int .i64 x.2.2] ++ List.replicate 28 .top ++ [.own 0 R.length 0 R.length, .int .i64 R.length, .int .i64 R.length, .bool false] ++ List.replicate 34 .top, [some ⟨R.length, 2, true, spRows R⟩]⟩
theorem exit18b (R : List Sp) (x : Int × Int × Int) (f : Nat) : evCode (evC Dg) f c18b0 (S18b R R.length x) = some (.exit 2 (X18b R x)) := by
  unfold c18b0 X18b
  simp [evCode, evOps, evOne, evOp, evPur, evEff, evPur.chunks, fillP, AOp.isEff, AO.ev, putP, PV.cells, PV.leaf, getB, getM, mapE, iterE, keyC, mapRows, mfind, eq1, eqL, scal, binP, unP, minP, maxP, foldP, PV.lt, PV.lt.ltL, endP, expoAll, expoG, expo, expo.expoL, frIds, frIds.frIdsL, nodupN, kill, cls, clsFuel, resO, RV.get, loadP, evC_p, evC_s, endS, endT, rowsOf, callP, thinL, unfr, unfr.unfrL, PV.noMem, PV.noMem.noMemL, optI, mapO, norm, trimT, trimB, forget, hasN, blksLt, List.set, softChk, softGo, softRd, effTg, rdP, S18b]
theorem runP_bnd (R : List Sp) (hb : ∀ c ∈ R, -1000000000000 ≤ c.2 ∧ c.2 ≤ 1000000000000) : ∀ k : Nat, -((k : Int) * 1000000000000) ≤ (runP R k).2.2 ∧ (runP R k).2.2 ≤ (k : Int) * 1000000000000
  | 0 => by simp [runP]
  | k + 1 => by
    obtain ⟨h1, h2⟩ := runP_bnd R hb k
    unfold runP
    generalize runP R k = x at *
    unfold stepP
    cases hc : R[k]? with
    | none => simp only; omega
    | some c =>
      obtain ⟨h3, h4⟩ := hb c (List.mem_of_getElem? hc)
      simp only
      cases R[k + 1]? with
      | none => simp only; split <;> (simp only; omega)
      | some d => simp only; split <;> (try split) <;> (simp only; omega)
set_option maxRecDepth 100000 in
theorem f18 (l : List Bk) (hS : Siz l) : evE Dg 18 [.sl false 7 (bRows l)] = some (.tup [.int .i64 (runP (Try.srt (chg l)) (chg l).length).1, .int .i64 (runP (Try.srt (chg l)) (chg l).length).2.1]) := by
  have eL := bRows_len l
  obtain ⟨hl, hs⟩ := hS
  have HA := fun (s0 : St) (E : Option Out) => loop_foldE (body := evCode (evC Dg) 3000 c18b1) (keep := [4, 13, 14, 15]) (n0 := 1) (fuel := 3000) l (S18a l) chgN (fun k o => o.length = 2 * k) (by
    intro k b o hb hk hI
    obtain ⟨s1, s2⟩ := hs b (List.mem_of_getElem? hb)
    have hk' : (k : Int) < l.length := by omega
    have w1 := wrap_i64 ((k : Int) + 1) (by omega) (by omega)
    have w2 := wrap_i64 (-b.s) (by omega) (by omega)
    have eg := bRows_get hb
    have eg' := bRows_getE hb
    have eO := spRows_len o
    have er := (spRows_two o (b.f, b.s) (b.e, -b.s)).symm
    have a1 : (o.length + 2) * 16 ≤ 140737488355328 := by omega
    have a2 : o.length + 2 ≤ 140737488355328 := by omega
    refine ⟨by simp [chgN]; omega, ?_⟩
    unfold chgN
    simp only at er
    unfold c18b1
    simp [evCode, evOps, evOne, evOp, evPur, evEff, evPur.chunks, fillP, AOp.isEff, AO.ev, putP, PV.cells, PV.leaf, getB, getM, mapE, iterE, keyC, mapRows, mfind, eq1, eqL, scal, binP, unP, minP, maxP, foldP, PV.lt, PV.lt.ltL, endP, expoAll, expoG, expo, expo.expoL, frIds, frIds.frIdsL, nodupN, kill, cls, clsFuel, resO, RV.get, loadP, evC_p, evC_s, endS, endT, rowsOf, callP, thinL, unfr, unfr.unfrL, PV.noMem, PV.noMem.noMemL, optI, mapO, norm, trimT, trimB, forget, hasN, blksLt, List.set, softChk, softGo, softRd, effTg, rdP, S18a, hk, hk', w1, w2, eL, eO, eg, eg', bRow, eTx, er, a1, a2]
    try rfl) (by
    intro o _ s
    unfold c18b1
    simp [evCode, evOps, evOne, evOp, evPur, evEff, evPur.chunks, fillP, AOp.isEff, AO.ev, putP, PV.cells, PV.leaf, getB, getM, mapE, iterE, keyC, mapRows, mfind, eq1, eqL, scal, binP, unP, minP, maxP, foldP, PV.lt, PV.lt.ltL, endP, expoAll, expoG, expo, expo.expoL, frIds, frIds.frIdsL, nodupN, kill, cls, clsFuel, resO, RV.get, loadP, evC_p, evC_s, endS, endT, rowsOf, callP, thinL, unfr, unfr.unfrL, PV.noMem, PV.noMem.noMemL, optI, mapO, norm, trimT, trimB, forget, hasN, blksLt, List.set, softChk, softGo, softRd, effTg, rdP, S18a, eL]) (by omega) [] rfl s0 E
  have hcl := chg_len l []
  have hcm := chg_mem l []
  have hch : l.foldl chgN [] = chg l := rfl
  rw [hch] at hcl hcm HA
  have h40 := s40 (chg l) (by simp at hcl; omega)
  have hrl := srt_len (chg l)
  have hrb : ∀ c ∈ Try.srt (chg l), -1000000000000 ≤ c.2 ∧ c.2 ≤ 1000000000000 := by
    intro c hc
    rw [(srt_perm (chg l)).mem_iff, hcm] at hc
    rcases hc with hc | ⟨b, hb, hc | hc⟩
    · cases hc
    · have := hs b hb
      rw [hc]; simp only; omega
    · have := hs b hb
      rw [hc]; simp only; omega
  generalize Try.srt (chg l) = R at *
  generalize chg l = C at *
  have hRl : R.length ≤ 400 := by rw [hrl, hcl]; simp; omega
  have HB := fun (s0 : St) (E : Option Out) => loop_inv (body := evCode (evC Dg) 3000 c18b0) (keep := [4, 7, 8, 9, 38, 39, 40]) (n0 := 1) (fuel := 3000) R (fun k x => S18b R k x) (fun k x => x = runP R k) (fun _ => False) (by
    intro k c x hc hk hI
    left
    obtain ⟨b1, b2⟩ := runP_bnd R hrb k
    rw [← hI] at b1 b2
    obtain ⟨s, e1, e2⟩ := step18 R hRl hrb k c hc x b1 b2
    exact ⟨_, s, e1, e2, by rw [hI]; rfl⟩) (by
    intro x _ s
    rw [exit18b]
    intro h; cases h) (by omega) (0, 0, 0) rfl s0 E
  refine evE_intro 3000 D18 rfl ?_
  unfold c18
  simp [evCode, evOps, evOne, evOp, evPur, evEff, evPur.chunks, fillP, AOp.isEff, AO.ev, putP, PV.cells, PV.leaf, getB, getM, mapE, iterE, keyC, mapRows, mfind, eq1, eqL, scal, binP, unP, minP, maxP, foldP, PV.lt, PV.lt.ltL, endP, expoAll, expoG, expo, expo.expoL, frIds, frIds.frIdsL, nodupN, kill, cls, clsFuel, resO, RV.get, loadP, evC_p, evC_s, endS, endT, rowsOf, callP, thinL, unfr, unfr.unfrL, PV.noMem, PV.noMem.noMemL, optI, mapO, norm, trimT, trimB, forget, hasN, blksLt, List.set, softChk, softGo, softRd, effTg, rdP, eL]
  generalize hE : evLoop (evCode (evC Dg) 3000 c18b1) [4, 13, 14, 15] 1 3000 _ = E
  obtain ⟨h, -⟩ := HA _ E hE (by simp [evCode, evOps, evOne, evOp, evPur, evEff, evPur.chunks, fillP, AOp.isEff, AO.ev, putP, PV.cells, PV.leaf, getB, getM, mapE, iterE, keyC, mapRows, mfind, eq1, eqL, scal, binP, unP, minP, maxP, foldP, PV.lt, PV.lt.ltL, endP, expoAll, expoG, expo, expo.expoL, frIds, frIds.frIdsL, nodupN, kill, cls, clsFuel, resO, RV.get, loadP, evC_p, evC_s, endS, endT, rowsOf, callP, thinL, unfr, unfr.unfrL, PV.noMem, PV.noMem.noMemL, optI, mapO, norm, trimT, trimB, forget, hasN, blksLt, List.set, softChk, softGo, softRd, effTg, rdP, S18a, spRows])
  subst h
  clear HA hE
  have eC := spRows_len C
  have eR := spRows_len R
  rw [← hrl] at h40 eC ⊢
  unfold c18b1 c18r0 S18a
  rw [← hrl]
  simp [evCode, evOps, evOne, evOp, evPur, evEff, evPur.chunks, fillP, AOp.isEff, AO.ev, putP, PV.cells, PV.leaf, getB, getM, mapE, iterE, keyC, mapRows, mfind, eq1, eqL, scal, binP, unP, minP, maxP, foldP, PV.lt, PV.lt.ltL, endP, expoAll, expoG, expo, expo.expoL, frIds, frIds.frIdsL, nodupN, kill, cls, clsFuel, resO, RV.get, loadP, evC_p, evC_s, endS, endT, rowsOf, callP, thinL, unfr, unfr.unfrL, PV.noMem, PV.noMem.noMemL, optI, mapO, norm, trimT, trimB, forget, hasN, blksLt, List.set, softChk, softGo, softRd, effTg, rdP, eL, h40, eR, eC]
  generalize hE : evLoop (evCode (evC Dg) 3000 c18b0) [4, 7, 8, 9, 38, 39, 40] 1 3000 _ = E
  rcases HB _ E hE (by simp [evCode, evOps, evOne, evOp, evPur, evEff, evPur.chunks, fillP, AOp.isEff, AO.ev, putP, PV.cells, PV.leaf, getB, getM, mapE, iterE, keyC, mapRows, mfind, eq1, eqL, scal, binP, unP, minP, maxP, foldP, PV.lt, PV.lt.ltL, endP, expoAll, expoG, expo, expo.expoL, frIds, frIds.frIdsL, nodupN, kill, cls, clsFuel, resO, RV.get, loadP, evC_p, evC_s, endS, endT, rowsOf, callP, thinL, unfr, unfr.unfrL, PV.noMem, PV.noMem.noMemL, optI, mapO, norm, trimT, trimB, forget, hasN, blksLt, List.set, softChk, softGo, softRd, effTg, rdP, S18b]) with ⟨x, hx, rfl⟩ | ⟨s, _, h⟩
  · rw [exit18b, ← hx]
    clear HB hE
    unfold X18b
    simp [evCode, evOps, evOne, evOp, evPur, evEff, evPur.chunks, fillP, AOp.isEff, AO.ev, putP, PV.cells, PV.leaf, getB, getM, mapE, iterE, keyC, mapRows, mfind, eq1, eqL, scal, binP, unP, minP, maxP, foldP, PV.lt, PV.lt.ltL, endP, expoAll, expoG, expo, expo.expoL, frIds, frIds.frIdsL, nodupN, kill, cls, clsFuel, resO, RV.get, loadP, evC_p, evC_s, endS, endT, rowsOf, callP, thinL, unfr, unfr.unfrL, PV.noMem, PV.noMem.noMemL, optI, mapO, norm, trimT, trimB, forget, hasN, blksLt, List.set, softChk, softGo, softRd, effTg, rdP]
  · exact h.elim
end Go.Proofs.Ytalmhggbdfjalaa
