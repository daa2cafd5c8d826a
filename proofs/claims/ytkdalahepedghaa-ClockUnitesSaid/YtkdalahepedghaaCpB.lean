/- slices.Compact of sorted ints, upon the caller's own slice, whole. -/
import Derived.Test.YtkdalahepedghaaCpA
namespace Go.Proofs.Ytkdalahepedghaa
open Go Go.RowKit
set_option maxHeartbeats 4000000
set_option linter.unusedVariables false
set_option linter.unusedSimpArgs false

set_option maxRecDepth 100000 in
theorem turn29i (v : Nat) (zs : List Int) (hs : zs.Pairwise (· ≤ ·)) (hl : zs.length ≤ 2000) (K : Nat) (hK : K < zs.length) (x0 : List Int × List Int) (hI : Ci zs (K + 1) x0) (s0 : St) (E : Option Out)
    (hE : evLoop (evCode (evC Dg) 2100 c29b0) [0, 3, 4, 5] 3 2100 s0 = E) (h0 : norm [0, 3, 4, 5] 3 s0 = S29i v zs K (K + 1) x0) :
    ∃ x, Ci zs zs.length x ∧ E = evCode (evC Dg) 2100 c29b0 (S29i v zs K zs.length x) := by
  suffices hS : (∃ x, Ci zs (K + 1 + (zs.drop (K + 1)).length) x ∧ E = evCode (evC Dg) 2100 c29b0 (S29i v zs K (K + 1 + (zs.drop (K + 1)).length) x)) ∨ (∃ s, E = some (.ret s) ∧ False) by
    rcases hS with h | ⟨_, _, h⟩
    · have e : K + 1 + (zs.drop (K + 1)).length = zs.length := by rw [List.length_drop]; omega
      rw [e] at h
      exact h
    · exact h.elim
  refine loop_inv (body := evCode (evC Dg) 2100 c29b0) (keep := [0, 3, 4, 5]) (n0 := 3) (fuel := 2100) (zs.drop (K + 1)) (fun j => S29i v zs K (K + 1 + j)) (fun j x => Ci zs (K + 1 + j) x) (fun _ => False) ?_ ?_ (by rw [List.length_drop]; omega) x0 hI s0 E hE h0
  · intro j a x ha hj hI
    left
    rw [List.getElem?_drop] at ha
    refine ⟨cstep zs (K + 1 + j) x a, ?_⟩
    obtain ⟨s', h1, h2⟩ := step29i v zs hs hl K (K + 1 + j) (by omega) x hI a ha
    exact ⟨s', h1, h2, hI.next hs (by omega) ha⟩
  · intro x hI s
    have e : K + 1 + (zs.drop (K + 1)).length = zs.length := by rw [List.length_drop]; omega
    rw [e]
    have c1 : ¬ (zs.length : Int) - K < ((zs.length - K : Nat) : Int) := by omega
    unfold c29b0
    simp [evCode, evOps, evOne, evOp, evPur, evEff, evPur.chunks, fillP, AOp.isEff, AO.ev, putP, PV.cells, PV.leaf, getB, getM, mapE, iterE, keyC, mapRows, mfind, eq1, eqL, scal, binP, unP, minP, maxP, foldP, PV.lt, PV.lt.ltL, endP, expoAll, expoG, expo, expo.expoL, frIds, frIds.frIdsL, nodupN, kill, cls, clsFuel, resO, RV.get, loadP, evC_p, evC_s, endS, endT, rowsOf, callP, thinL, unfr, unfr.unfrL, PV.noMem, PV.noMem.noMemL, optI, mapO, norm, trimT, trimB, forget, hasN, blksLt, List.set, softChk, softGo, softRd, effTg, rdP, S29i, c1]

def S29o (v : Nat) (zs : List Int) (k : Nat) : St :=
  ⟨[.own 1 v 0 zs.length, .top, .top, .int .i64 k] ++ List.replicate 57 .top, [some ⟨0, 1, true, []⟩, some ⟨v, 1, true, zRows zs⟩, some ⟨0, 1, true, []⟩]⟩
def Done (v : Nat) (zs : List Int) (p : PV) (bl : Blks) : Prop := ∃ out rows, p = .own 1 v 0 out.length ∧ bl = [some ⟨0, 1, true, []⟩, some ⟨v, 1, true, rows⟩] ∧ rows.take out.length = zRows out ∧ out.length ≤ rows.length ∧ out.Pairwise (· < ·) ∧ ∀ z, z ∈ out ↔ z ∈ zs
theorem ci_zero {zs : List Int} (hs : zs.Pairwise (· ≤ ·)) {k : Nat} (hk : k + 1 < zs.length) (hp : (zs.take (k + 1)).Pairwise (· < ·)) (he : zs[k + 1]? = zs[k]?) : Ci zs (k + 1 + 1) (zs.take (k + 1), zs) := by
  have hlen : (zs.take (k + 1)).length = k + 1 := by rw [List.length_take]; omega
  refine ⟨rfl, by show (zs.take (k + 1)).length + 1 ≤ _; omega, by show zs.take (zs.take (k + 1)).length = _; rw [hlen], fun j _ => rfl, ?_, hp, ?_⟩
  · intro z hz a ha
    simp only [Nat.add_sub_cancel] at hz
    obtain ⟨j, hj, e⟩ := List.getElem_of_mem ha
    obtain ⟨h1, h2⟩ := List.getElem?_eq_some_iff.1 hz
    rw [hlen] at hj
    rw [List.getElem_take] at e
    rw [← e, ← h2]
    exact List.pairwise_iff_getElem.1 hs j (k + 1) (by omega) h1 hj
  · intro z
    have ht : zs.take (k + 1 + 1) = zs.take (k + 1) ++ [zs[k + 1]] := by rw [List.take_add_one, List.getElem?_eq_getElem hk]; rfl
    rw [ht, List.mem_append, List.mem_singleton]
    constructor
    · exact .inl
    · rintro (h | rfl)
      · exact h
      · rw [List.getElem?_eq_getElem hk, List.getElem?_eq_getElem (by omega : k < zs.length)] at he
        show zs[k + 1] ∈ zs.take (k + 1)
        rw [Option.some.inj he, List.mem_take_iff_getElem]
        exact ⟨k, by omega, rfl⟩
set_option maxRecDepth 100000 in
theorem step29o (v : Nat) (zs : List Int) (hs : zs.Pairwise (· ≤ ·)) (hl : zs.length ≤ 2000) (k : Nat) (hk : k + 1 < zs.length) (hp : (zs.take (k + 1)).Pairwise (· < ·)) :
    (∃ s', evCode (evC Dg) 2100 c29b1 (S29o v zs (k + 1)) = some (.normal s') ∧ norm [0, 3] 3 s' = S29o v zs (k + 1 + 1) ∧ (zs.take (k + 1 + 1)).Pairwise (· < ·)) ∨
    ∃ s', evCode (evC Dg) 2100 c29b1 (S29o v zs (k + 1)) = some (.ret s') ∧ ∃ p bl, s'.sl[2]? = some p ∧ s'.bl = bl ++ [some ⟨0, 1, true, []⟩] ∧ Done v zs p bl := by
  have ha : zs[k + 1]? = some zs[k + 1] := List.getElem?_eq_getElem hk
  have hb : zs[k]? = some (zs[k]'(by omega)) := List.getElem?_eq_getElem (by omega)
  have hle : zs[k]'(by omega) ≤ zs[k + 1] := List.pairwise_iff_getElem.1 hs k (k + 1) (by omega) hk (by omega)
  have ht : zs.take (k + 1 + 1) = zs.take (k + 1) ++ [zs[k + 1]] := by rw [List.take_add_one, ha]; rfl
  have hz := fun e => ci_zero hs hk hp e
  have hpw : ¬ zs[k]'(by omega) = zs[k + 1] → (zs.take (k + 1 + 1)).Pairwise (· < ·) := by
    intro hne
    rw [ht, List.pairwise_append]
    refine ⟨hp, by simp, ?_⟩
    intro a ha c hc
    simp at hc
    subst hc
    obtain ⟨j, hj, e⟩ := List.getElem_of_mem ha
    rw [List.getElem_take] at e
    rw [List.length_take] at hj
    have : a ≤ zs[k]'(by omega) := by
      rw [← e]
      by_cases q : j = k
      · subst q; omega
      · exact List.pairwise_iff_getElem.1 hs j k (by omega) (by omega) (by omega)
    omega
  rw [ha, hb] at hz
  generalize zs[k + 1] = a at *
  generalize zs[k]'(by omega) = b at *
  have ga := zRows_get ha
  have gb := zRows_get hb
  have eL := zRows_len zs
  have ga' : (zRows zs)[k + 1]'(by rw [eL]; exact hk) = [PV.int .i64 a] := (List.getElem?_eq_some_iff.1 ga).2
  have gb' : (zRows zs)[k]'(by rw [eL]; omega) = [PV.int .i64 b] := (List.getElem?_eq_some_iff.1 gb).2
  have w1 := wrap_i64 ((k : Int) + 1 + 1) (by omega) (by omega)
  have w2 := wrap_i64 (k : Int) (by omega) (by omega)
  have c1 : (k : Int) + 1 < zs.length := by omega
  have c2 : (k : Int) + 1 - 1 = k := by omega
  have c3 : (k : Int) < zs.length := by omega
  have c4 : (0 : Int) ≤ (k : Int) + 1 := by omega
  have c5 : k < zs.length := by omega
  have c6 : (k : Int) + 1 ≤ zs.length := by omega
  have c7 : k + 1 ≤ zs.length := by omega
  by_cases e : a = b
  · right
    subst e
    have T := turn29i v zs hs hl (k + 1) hk _ (hz rfl)
    have htl : (zs.take (k + 1)).length = k + 1 := by rw [List.length_take]; omega
    unfold c29b1
    simp [evCode, evOps, evOne, evOp, evPur, evEff, evPur.chunks, fillP, AOp.isEff, AO.ev, putP, PV.cells, PV.leaf, getB, getM, mapE, iterE, keyC, mapRows, mfind, eq1, eqL, scal, binP, unP, minP, maxP, foldP, PV.lt, PV.lt.ltL, endP, expoAll, expoG, expo, expo.expoL, frIds, frIds.frIdsL, nodupN, kill, cls, clsFuel, resO, RV.get, loadP, evC_p, evC_s, endS, endT, rowsOf, callP, thinL, unfr, unfr.unfrL, PV.noMem, PV.noMem.noMemL, optI, mapO, norm, trimT, trimB, forget, hasN, blksLt, List.set, softChk, softGo, softRd, effTg, rdP, S29o, eL, ga, gb, ga', gb', w1, w2, c1, c2, c3, c4, c5, c6, c7, hk]
    generalize hE : evLoop _ _ _ _ _ = E
    obtain ⟨x, hC, hEx⟩ := T _ _ hE (by simp [evCode, evOps, evOne, evOp, evPur, evEff, evPur.chunks, fillP, AOp.isEff, AO.ev, putP, PV.cells, PV.leaf, getB, getM, mapE, iterE, keyC, mapRows, mfind, eq1, eqL, scal, binP, unP, minP, maxP, foldP, PV.lt, PV.lt.ltL, endP, expoAll, expoG, expo, expo.expoL, frIds, frIds.frIdsL, nodupN, kill, cls, clsFuel, resO, RV.get, loadP, evC_p, evC_s, endS, endT, rowsOf, callP, thinL, unfr, unfr.unfrL, PV.noMem, PV.noMem.noMemL, optI, mapO, norm, trimT, trimB, forget, hasN, blksLt, List.set, softChk, softGo, softRd, effTg, rdP, S29i, htl]; omega)
    rw [hEx]
    obtain ⟨out, r⟩ := x
    have hkl : out.length + 1 ≤ zs.length := hC.kl
    have hrl : r.length = zs.length := hC.rl
    have q1 : ¬ (zs.length : Int) - ((k : Int) + 1) < ((zs.length - (k + 1) : Nat) : Int) := by omega
    have q2 : (out.length : Int) ≤ zs.length := by omega
    have q3 : out.length ≤ zs.length := by omega
    have eR := zRows_len r
    rw [hrl] at eR
    have q4 : out.length + (zs.length - out.length) ≤ zs.length := by omega
    unfold c29b0
    simp [evCode, evOps, evOne, evOp, evPur, evEff, evPur.chunks, fillP, AOp.isEff, AO.ev, putP, PV.cells, PV.leaf, getB, getM, mapE, iterE, keyC, mapRows, mfind, eq1, eqL, scal, binP, unP, minP, maxP, foldP, PV.lt, PV.lt.ltL, endP, expoAll, expoG, expo, expo.expoL, frIds, frIds.frIdsL, nodupN, kill, cls, clsFuel, resO, RV.get, loadP, evC_p, evC_s, endS, endT, rowsOf, callP, thinL, unfr, unfr.unfrL, PV.noMem, PV.noMem.noMemL, optI, mapO, norm, trimT, trimB, forget, hasN, blksLt, List.set, softChk, softGo, softRd, effTg, rdP, S29i, q1, q2, q3, q4, eR]
    have hpre : r.take out.length = out := hC.pre
    have hzr : List.take out.length (zRows r) = zRows out := by
      have : List.take out.length (zRows r) = zRows (r.take out.length) := by simp [zRows, List.map_take]
      rw [this, hpre]
    refine ⟨_, rfl, out, _, rfl, rfl, ?_, ?_, hC.pw, ?_⟩
    · rw [hzr]
      have := zRows_len out
      rw [List.take_append_of_le_length (by omega), ← this, List.take_length]
    · rw [hzr]
      have := zRows_len out
      simp only [List.length_append]
      omega
    · intro z
      have := hC.mem z
      rw [List.take_length] at this
      exact this
  · left
    have e' : ¬ b = a := fun q => e q.symm
    refine (fun ⟨s', q1, q2⟩ => ⟨s', q1, q2, hpw e'⟩ : (∃ s', _ ∧ _) → _) ?_
    unfold c29b1
    simp [evCode, evOps, evOne, evOp, evPur, evEff, evPur.chunks, fillP, AOp.isEff, AO.ev, putP, PV.cells, PV.leaf, getB, getM, mapE, iterE, keyC, mapRows, mfind, eq1, eqL, scal, binP, unP, minP, maxP, foldP, PV.lt, PV.lt.ltL, endP, expoAll, expoG, expo, expo.expoL, frIds, frIds.frIdsL, nodupN, kill, cls, clsFuel, resO, RV.get, loadP, evC_p, evC_s, endS, endT, rowsOf, callP, thinL, unfr, unfr.unfrL, PV.noMem, PV.noMem.noMemL, optI, mapO, norm, trimT, trimB, forget, hasN, blksLt, List.set, softChk, softGo, softRd, effTg, rdP, S29o, eL, ga, gb, ga', gb', w1, w2, c1, c2, c3, c4, c5, c6, c7, hk, e, e']
set_option maxRecDepth 100000 in
theorem s29 (v : Nat) (zs : List Int) (hs : zs.Pairwise (· ≤ ·)) (hl : zs.length ≤ 2000) :
    ∃ out rows, evS Dg 29 [.own 1 v 0 zs.length] [some ⟨0, 1, true, []⟩, some ⟨v, 1, true, zRows zs⟩] = some (.own 1 v 0 out.length, [some ⟨0, 1, true, []⟩, some ⟨v, 1, true, rows⟩]) ∧
      rows.take out.length = zRows out ∧ out.length ≤ rows.length ∧ out.Pairwise (· < ·) ∧ ∀ z, z ∈ out ↔ z ∈ zs := by
  suffices h : ∃ r, endS c29.res 2 (evCode (evC Dg) 2100 c29.code ⟨[.own 1 v 0 zs.length] ++ List.replicate (c29.nt - c29.np) .top, [some ⟨0, 1, true, []⟩, some ⟨v, 1, true, zRows zs⟩]⟩) = some r ∧ Done v zs r.1 r.2 by
    obtain ⟨⟨p, bl⟩, h1, out, rows, hp, hb, h2⟩ := h
    have hp : p = _ := hp
    have hb : bl = _ := hb
    subst hp
    subst hb
    exact ⟨out, rows, evS_intro 2100 D29 rfl h1, h2⟩
  have eL := zRows_len zs
  have dz : zs.Pairwise (· < ·) → Done v zs (.own 1 v 0 zs.length) [some ⟨0, 1, true, []⟩, some ⟨v, 1, true, zRows zs⟩] := fun hp =>
    ⟨zs, zRows zs, rfl, rfl, by have := List.take_length (l := zRows zs); rw [eL] at this; exact this, by omega, hp, fun z => Iff.rfl⟩
  by_cases h2 : zs.length < 2
  · have h2' : (zs.length : Int) < 2 := by omega
    have hp : zs.Pairwise (· < ·) := by
      rcases zs with _ | ⟨a, _ | ⟨b, r⟩⟩
      · exact .nil
      · simp
      · simp at h2; omega
    have D := dz hp
    unfold c29
    simp [evCode, evOps, evOne, evOp, evPur, evEff, evPur.chunks, fillP, AOp.isEff, AO.ev, putP, PV.cells, PV.leaf, getB, getM, mapE, iterE, keyC, mapRows, mfind, eq1, eqL, scal, binP, unP, minP, maxP, foldP, PV.lt, PV.lt.ltL, endP, expoAll, expoG, expo, expo.expoL, frIds, frIds.frIdsL, nodupN, kill, cls, clsFuel, resO, RV.get, loadP, evC_p, evC_s, endS, endT, rowsOf, callP, thinL, unfr, unfr.unfrL, PV.noMem, PV.noMem.noMemL, optI, mapO, norm, trimT, trimB, forget, hasN, blksLt, List.set, softChk, softGo, softRd, effTg, rdP, h2']
    exact D
  · have h2' : ¬ (zs.length : Int) < 2 := by omega
    have H : ∀ (s0 : St) (E : Option Out), evLoop (evCode (evC Dg) 2100 c29b1) [0, 3] 3 2100 s0 = E → norm [0, 3] 3 s0 = S29o v zs 1 →
        (∃ _x : Unit, zs.Pairwise (· < ·) ∧ E = evCode (evC Dg) 2100 c29b1 (S29o v zs zs.length)) ∨ (∃ s, E = some (.ret s) ∧ ∃ p bl, s.sl[2]? = some p ∧ s.bl = bl ++ [some ⟨0, 1, true, []⟩] ∧ Done v zs p bl) := by
      intro s0 E hE h0
      have e : 1 + (zs.drop 1).length = zs.length := by rw [List.length_drop]; omega
      have := loop_inv (body := evCode (evC Dg) 2100 c29b1) (keep := [0, 3]) (n0 := 3) (fuel := 2100) (zs.drop 1) (fun k (_ : Unit) => S29o v zs (1 + k)) (fun k _ => (zs.take (1 + k)).Pairwise (· < ·)) (fun s => ∃ p bl, s.sl[2]? = some p ∧ s.bl = bl ++ [some ⟨0, 1, true, []⟩] ∧ Done v zs p bl) ?_ ?_ (by rw [List.length_drop]; omega) () ?_ s0 E hE h0
      · rw [e, List.take_length] at this
        exact this
      · intro k a x ha hk hp
        rw [List.length_drop] at hk
        rw [Nat.add_comm] at hp
        rcases step29o v zs hs hl k (by omega) hp with ⟨s', q1, q2, q3⟩ | ⟨s', q1, q2⟩
        · left
          refine ⟨(), s', ?_, ?_, ?_⟩
          · show evCode (evC Dg) 2100 c29b1 (S29o v zs (1 + k)) = _
            rw [Nat.add_comm]; exact q1
          · show _ = S29o v zs (1 + (k + 1))
            rw [Nat.add_comm]; exact q2
          · show (zs.take (1 + (k + 1))).Pairwise _
            rw [Nat.add_comm]; exact q3
        · right
          refine ⟨s', ?_, q2⟩
          show evCode (evC Dg) 2100 c29b1 (S29o v zs (1 + k)) = _
          rw [Nat.add_comm]; exact q1
      · intro x hp s
        show evCode (evC Dg) 2100 c29b1 (S29o v zs (1 + (zs.drop 1).length)) ≠ _
        rw [e]
        unfold c29b1
        simp [evCode, evOps, evOne, evOp, evPur, evEff, evPur.chunks, fillP, AOp.isEff, AO.ev, putP, PV.cells, PV.leaf, getB, getM, mapE, iterE, keyC, mapRows, mfind, eq1, eqL, scal, binP, unP, minP, maxP, foldP, PV.lt, PV.lt.ltL, endP, expoAll, expoG, expo, expo.expoL, frIds, frIds.frIdsL, nodupN, kill, cls, clsFuel, resO, RV.get, loadP, evC_p, evC_s, endS, endT, rowsOf, callP, thinL, unfr, unfr.unfrL, PV.noMem, PV.noMem.noMemL, optI, mapO, norm, trimT, trimB, forget, hasN, blksLt, List.set, softChk, softGo, softRd, effTg, rdP, S29o]
      · show (zs.take (1 + 0)).Pairwise _
        rcases zs with _ | ⟨a, r⟩
        · simp
        · simp
    unfold c29
    simp [evCode, evOps, evOne, evOp, evPur, evEff, evPur.chunks, fillP, AOp.isEff, AO.ev, putP, PV.cells, PV.leaf, getB, getM, mapE, iterE, keyC, mapRows, mfind, eq1, eqL, scal, binP, unP, minP, maxP, foldP, PV.lt, PV.lt.ltL, endP, expoAll, expoG, expo, expo.expoL, frIds, frIds.frIdsL, nodupN, kill, cls, clsFuel, resO, RV.get, loadP, evC_p, evC_s, endS, endT, rowsOf, callP, thinL, unfr, unfr.unfrL, PV.noMem, PV.noMem.noMemL, optI, mapO, norm, trimT, trimB, forget, hasN, blksLt, List.set, softChk, softGo, softRd, effTg, rdP, h2']
    generalize hE : evLoop _ _ _ _ _ = E
    rcases H _ _ hE (by simp [evCode, evOps, evOne, evOp, evPur, evEff, evPur.chunks, fillP, AOp.isEff, AO.ev, putP, PV.cells, PV.leaf, getB, getM, mapE, iterE, keyC, mapRows, mfind, eq1, eqL, scal, binP, unP, minP, maxP, foldP, PV.lt, PV.lt.ltL, endP, expoAll, expoG, expo, expo.expoL, frIds, frIds.frIdsL, nodupN, kill, cls, clsFuel, resO, RV.get, loadP, evC_p, evC_s, endS, endT, rowsOf, callP, thinL, unfr, unfr.unfrL, PV.noMem, PV.noMem.noMemL, optI, mapO, norm, trimT, trimB, forget, hasN, blksLt, List.set, softChk, softGo, softRd, effTg, rdP, S29o]) with ⟨_, hp, g⟩ | ⟨s, g, p, bl, g1, g2, g3⟩
    · have D := dz hp
      rw [g]
      unfold c29b1
      simp [evCode, evOps, evOne, evOp, evPur, evEff, evPur.chunks, fillP, AOp.isEff, AO.ev, putP, PV.cells, PV.leaf, getB, getM, mapE, iterE, keyC, mapRows, mfind, eq1, eqL, scal, binP, unP, minP, maxP, foldP, PV.lt, PV.lt.ltL, endP, expoAll, expoG, expo, expo.expoL, frIds, frIds.frIdsL, nodupN, kill, cls, clsFuel, resO, RV.get, loadP, evC_p, evC_s, endS, endT, rowsOf, callP, thinL, unfr, unfr.unfrL, PV.noMem, PV.noMem.noMemL, optI, mapO, norm, trimT, trimB, forget, hasN, blksLt, List.set, softChk, softGo, softRd, effTg, rdP, S29o]
      exact ⟨_, _, ⟨rfl, rfl⟩, D⟩
    · rw [g]
      obtain ⟨out, rows, rfl, rfl, hr⟩ := g3
      have D : Done v zs (.own 1 v 0 out.length) [some ⟨0, 1, true, []⟩, some ⟨v, 1, true, rows⟩] := ⟨out, rows, rfl, rfl, hr⟩
      simp [evCode, evOps, evOne, evOp, evPur, evEff, evPur.chunks, fillP, AOp.isEff, AO.ev, putP, PV.cells, PV.leaf, getB, getM, mapE, iterE, keyC, mapRows, mfind, eq1, eqL, scal, binP, unP, minP, maxP, foldP, PV.lt, PV.lt.ltL, endP, expoAll, expoG, expo, expo.expoL, frIds, frIds.frIdsL, nodupN, kill, cls, clsFuel, resO, RV.get, loadP, evC_p, evC_s, endS, endT, rowsOf, callP, thinL, unfr, unfr.unfrL, PV.noMem, PV.noMem.noMemL, optI, mapO, norm, trimT, trimB, forget, hasN, blksLt, List.set, softChk, softGo, softRd, effTg, rdP, g1, g2]
      exact ⟨_, _, ⟨rfl, rfl⟩, D⟩
end Go.Proofs.Ytkdalahepedghaa
