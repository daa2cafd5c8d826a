/- Numbers put in order; lists of numbers that are the same. -/
import Derived.Test.YtlnaibkpmklkiaaOfD
namespace Go.Proofs.Ytlnaibkpmklkiaa
open Go Go.RowKit
set_option maxHeartbeats 4000000
set_option linter.unusedVariables false
set_option linter.unusedSimpArgs false

def zRows (l : List Int) : List (List PV) := l.map fun z => [.int .i64 z]
theorem zRows_len (l : List Int) : (zRows l).length = l.length := by simp [zRows]
theorem zRows_get {l : List Int} {i : Nat} {z : Int} (h : l[i]? = some z) : (zRows l)[i]? = some [.int .i64 z] := by simp [zRows, h]
theorem zRows_int (l : List Int) : intRows l = zRows l := rfl
theorem evE_introX {D : Nat → Option AFn} {f : Nat} {fc : AFn} {args : List PV} {Q : PV → Prop} (k : Nat) (hD : D f = some fc) (hl : args.length = fc.np)
    (h : ∃ r, endP fc.res (evCode (evC D) k fc.code ⟨args ++ List.replicate (fc.nt - fc.np) .top, []⟩) = some r ∧ Q r) (hx : fc.ext = none := by rfl) : ∃ v, evE D f args = some v ∧ Q v := by
  obtain ⟨r, h1, h2⟩ := h
  exact ⟨r, evE_intro k hD hl h1 hx, h2⟩
theorem inc_ext : ∀ {a b : List Int}, a.Pairwise (· < ·) → b.Pairwise (· < ·) → (∀ x, x ∈ a ↔ x ∈ b) → a = b
  | [], [], _, _, _ => rfl
  | [], y :: b, _, _, h => by have := (h y).2 (by simp); simp at this
  | x :: a, [], _, _, h => by have := (h x).1 (by simp); simp at this
  | x :: a, y :: b, ha, hb, h => by
    have ha' := List.pairwise_cons.1 ha
    have hb' := List.pairwise_cons.1 hb
    have hxy : x = y := by
      have h1 := (h x).1 (by simp)
      have h2 := (h y).2 (by simp)
      rcases List.mem_cons.1 h1 with e | h1
      · exact e
      · rcases List.mem_cons.1 h2 with e | h2
        · exact e.symm
        · have := ha'.1 y h2
          have := hb'.1 x h1
          omega
    subst hxy
    rw [inc_ext ha'.2 hb'.2 (fun z => ?_)]
    have := h z
    constructor
    · intro hz
      rcases List.mem_cons.1 (this.1 (by simp [hz])) with e | q
      · have := ha'.1 z hz; omega
      · exact q
    · intro hz
      rcases List.mem_cons.1 (this.2 (by simp [hz])) with e | q
      · have := hb'.1 z hz; omega
      · exact q
theorem ins_pw {l : List Int} {k : Nat} {n : Int} (hp : l.Pairwise (· < ·)) (h1 : ∀ j a, j < k → l[j]? = some a → a < n) (h2 : ∀ a, l[k]? = some a → n < a) : (l.take k ++ n :: l.drop k).Pairwise (· < ·) := by
  have hb : ∀ b, b ∈ l.drop k → n < b := by
    intro b hb
    obtain ⟨i, hi, e⟩ := List.getElem_of_mem hb
    rw [List.length_drop] at hi
    rw [List.getElem_drop] at e
    have hk : l[k]? = some (l[k]'(by omega)) := List.getElem?_eq_getElem (by omega)
    have := h2 _ hk
    by_cases q : i = 0
    · subst q; simp only [Nat.add_zero] at e; omega
    · have := List.pairwise_iff_getElem.1 hp k (k + i) (by omega) (by omega) (by omega)
      omega
  have ha : ∀ a, a ∈ l.take k → a < n := by
    intro a ha
    obtain ⟨j, hj, e⟩ := List.getElem_of_mem ha
    rw [List.length_take] at hj
    rw [List.getElem_take] at e
    exact h1 j a (by omega) (by rw [← e]; exact List.getElem?_eq_getElem _)
  rw [List.pairwise_append]
  refine ⟨hp.sublist (List.take_sublist k l), List.pairwise_cons.2 ⟨hb, hp.sublist (List.drop_sublist k l)⟩, ?_⟩
  intro a haa b hbb
  have := ha a haa
  rcases List.mem_cons.1 hbb with rfl | hbb
  · exact this
  · have := hb b hbb
    omega
def S28 (l : List Int) (n : Int) (k : Nat) : St := ⟨[.sl false 1 (zRows l), .int .i64 n, .top, .top, .top, .int .i64 k] ++ List.replicate 42 .top, [some ⟨0, 1, true, []⟩]⟩
set_option maxRecDepth 100000 in
theorem turn28 (l : List Int) (n : Int) (hl : l.length ≤ 1000) (s0 : St) (E : Option Out)
    (hE : evLoop (evCode (evC Dg) 1100 c28b0) [0, 1, 5] 1 1100 s0 = E) (h0 : norm [0, 1, 5] 1 s0 = S28 l n 0) :
    ∃ k, k ≤ l.length ∧ (∀ j a, j < k → l[j]? = some a → a < n) ∧ (∀ a, l[k]? = some a → n ≤ a) ∧ E = evCode (evC Dg) 1100 c28b0 (S28 l n k) := by
  have eL := zRows_len l
  have H := loop_while (body := evCode (evC Dg) 1100 c28b0) (keep := [0, 1, 5]) (n0 := 1) (S28 l n) (fun k => 1001 - k) (fun k => k ≤ l.length ∧ ∀ j a, j < k → l[j]? = some a → a < n)
    (fun o => ∃ k, k ≤ l.length ∧ (∀ j a, j < k → l[j]? = some a → a < n) ∧ (∀ a, l[k]? = some a → n ≤ a) ∧ some o = evCode (evC Dg) 1100 c28b0 (S28 l n k)) ?_ (fuel := 1100) 0 ⟨by omega, by intro j a hj; omega⟩ (by decide) s0 E hE h0
  · obtain ⟨o, h1, k, h2, h3, h4, h5⟩ := H
    exact ⟨k, h2, h3, h4, by rw [h1, h5]⟩
  · rintro k ⟨hk, hI⟩
    have w1 := wrap_i64 ((k : Int) + 1) (by omega) (by omega)
    by_cases hlt : k < l.length
    · have hlt' : (k : Int) < l.length := by omega
      have ha : l[k]? = some l[k] := List.getElem?_eq_getElem hlt
      generalize l[k] = a at ha
      have ga := zRows_get ha
      have ga' : (zRows l)[k]'(by rw [eL]; exact hlt) = [PV.int .i64 a] := (List.getElem?_eq_some_iff.1 ga).2
      by_cases hn : a < n
      · left
        refine ⟨k + 1, ?_⟩
        have J : (k + 1 ≤ l.length ∧ ∀ j b, j < k + 1 → l[j]? = some b → b < n) ∧ 1001 - (k + 1) < 1001 - k := by
          refine ⟨⟨by omega, fun j b hj hb => ?_⟩, by omega⟩
          by_cases q : j = k
          · subst q; rw [ha] at hb; obtain rfl := Option.some.inj hb; exact hn
          · exact hI j b (by omega) hb
        refine (fun ⟨s', q1, q2⟩ => ⟨s', q1, q2, J⟩ : (∃ s', _ ∧ _) → _) ?_
        unfold c28b0
        simp [evCode, evOps, evOne, evOp, evPur, evEff, evPur.chunks, fillP, AOp.isEff, AO.ev, putP, PV.cells, PV.leaf, getB, getM, mapE, iterE, keyC, mapRows, mfind, eq1, eqL, scal, binP, unP, minP, maxP, foldP, PV.lt, PV.lt.ltL, endP, expoAll, expoG, expo, expo.expoL, frIds, frIds.frIdsL, nodupN, kill, cls, clsFuel, resO, RV.get, loadP, evC_p, evC_s, endS, endT, rowsOf, callP, thinL, unfr, unfr.unfrL, PV.noMem, PV.noMem.noMemL, optI, mapO, norm, trimT, trimB, forget, hasN, blksLt, List.set, softChk, softGo, softRd, effTg, rdP, S28, eL, hlt, hlt', ga, ga', hn, w1]
      · right
        have key : ∃ s, evCode (evC Dg) 1100 c28b0 (S28 l n k) = some (.exit 0 s) := by
          unfold c28b0
          simp [evCode, evOps, evOne, evOp, evPur, evEff, evPur.chunks, fillP, AOp.isEff, AO.ev, putP, PV.cells, PV.leaf, getB, getM, mapE, iterE, keyC, mapRows, mfind, eq1, eqL, scal, binP, unP, minP, maxP, foldP, PV.lt, PV.lt.ltL, endP, expoAll, expoG, expo, expo.expoL, frIds, frIds.frIdsL, nodupN, kill, cls, clsFuel, resO, RV.get, loadP, evC_p, evC_s, endS, endT, rowsOf, callP, thinL, unfr, unfr.unfrL, PV.noMem, PV.noMem.noMemL, optI, mapO, norm, trimT, trimB, forget, hasN, blksLt, List.set, softChk, softGo, softRd, effTg, rdP, S28, eL, hlt, hlt', ga, ga', hn]
        obtain ⟨s, hs⟩ := key
        exact ⟨_, hs, (by intro s' e; cases e), k, hk, hI, (fun b hb => by rw [ha] at hb; obtain rfl := Option.some.inj hb; omega), hs.symm⟩
    · right
      have hlt' : ¬ (k : Int) < l.length := by omega
      have key : ∃ s, evCode (evC Dg) 1100 c28b0 (S28 l n k) = some (.exit 0 s) := by
        unfold c28b0
        simp [evCode, evOps, evOne, evOp, evPur, evEff, evPur.chunks, fillP, AOp.isEff, AO.ev, putP, PV.cells, PV.leaf, getB, getM, mapE, iterE, keyC, mapRows, mfind, eq1, eqL, scal, binP, unP, minP, maxP, foldP, PV.lt, PV.lt.ltL, endP, expoAll, expoG, expo, expo.expoL, frIds, frIds.frIdsL, nodupN, kill, cls, clsFuel, resO, RV.get, loadP, evC_p, evC_s, endS, endT, rowsOf, callP, thinL, unfr, unfr.unfrL, PV.noMem, PV.noMem.noMemL, optI, mapO, norm, trimT, trimB, forget, hasN, blksLt, List.set, softChk, softGo, softRd, effTg, rdP, S28, eL, hlt, hlt']
      obtain ⟨s, hs⟩ := key
      exact ⟨_, hs, (by intro s' e; cases e), k, hk, hI, (fun b hb => by rw [List.getElem?_eq_none (by omega)] at hb; cases hb), hs.symm⟩
set_option maxRecDepth 100000 in
theorem f28 (l : List Int) (n : Int) (hl : l.length ≤ 1000) (hp : l.Pairwise (· < ·)) :
    ∃ v r, evE Dg 28 [.sl false 1 (zRows l), .int .i64 n] = some v ∧ unfr v = .sl false 1 (zRows r) ∧ r.Pairwise (· < ·) ∧ r.length ≤ l.length + 1 ∧ ∀ x, x ∈ r ↔ x ∈ l ∨ x = n := by
  suffices h : ∃ v, evE Dg 28 [.sl false 1 (zRows l), .int .i64 n] = some v ∧ ∃ r, unfr v = .sl false 1 (zRows r) ∧ r.Pairwise (· < ·) ∧ r.length ≤ l.length + 1 ∧ ∀ x, x ∈ r ↔ x ∈ l ∨ x = n by
    obtain ⟨v, h1, r, h2⟩ := h
    exact ⟨v, r, h1, h2⟩
  have T := turn28 l n hl
  have eL := zRows_len l
  refine evE_introX 1100 D28 rfl ?_
  unfold c28
  simp [evCode, evOps, evOne, evOp, evPur, evEff, evPur.chunks, fillP, AOp.isEff, AO.ev, putP, PV.cells, PV.leaf, getB, getM, mapE, iterE, keyC, mapRows, mfind, eq1, eqL, scal, binP, unP, minP, maxP, foldP, PV.lt, PV.lt.ltL, endP, expoAll, expoG, expo, expo.expoL, frIds, frIds.frIdsL, nodupN, kill, cls, clsFuel, resO, RV.get, loadP, evC_p, evC_s, endS, endT, rowsOf, callP, thinL, unfr, unfr.unfrL, PV.noMem, PV.noMem.noMemL, optI, mapO, norm, trimT, trimB, forget, hasN, blksLt, List.set, softChk, softGo, softRd, effTg, rdP, eL]
  generalize hE : evLoop _ _ _ _ _ = E
  obtain ⟨k, k1, k2, k3, k4⟩ := T _ _ hE (by simp [evCode, evOps, evOne, evOp, evPur, evEff, evPur.chunks, fillP, AOp.isEff, AO.ev, putP, PV.cells, PV.leaf, getB, getM, mapE, iterE, keyC, mapRows, mfind, eq1, eqL, scal, binP, unP, minP, maxP, foldP, PV.lt, PV.lt.ltL, endP, expoAll, expoG, expo, expo.expoL, frIds, frIds.frIdsL, nodupN, kill, cls, clsFuel, resO, RV.get, loadP, evC_p, evC_s, endS, endT, rowsOf, callP, thinL, unfr, unfr.unfrL, PV.noMem, PV.noMem.noMemL, optI, mapO, norm, trimT, trimB, forget, hasN, blksLt, List.set, softChk, softGo, softRd, effTg, rdP, S28])
  rw [k4]
  clear hE k4 T
  have ins : ∀ r : List Int, r = l.take k ++ n :: l.drop k → ∀ x, x ∈ r ↔ x ∈ l ∨ x = n := by
    rintro r rfl x
    have : x ∈ l ↔ x ∈ l.take k ∨ x ∈ l.drop k := by rw [← List.mem_append, List.take_append_drop]
    rw [this, List.mem_append, List.mem_cons]
    constructor
    · rintro (h | h | h)
      · exact .inl (.inl h)
      · exact .inr h
      · exact .inl (.inr h)
    · rintro ((h | h) | h)
      · exact .inl h
      · exact .inr (.inr h)
      · exact .inr (.inl h)
  have er : zRows (l.take k ++ n :: l.drop k) = List.take k (zRows l) ++ [.int .i64 n] :: List.drop k (zRows l) := by simp [zRows, List.map_take, List.map_drop]
  have hz : ∀ q : List Int, (zRows q).all (PV.lt.ltL 0) = true := by
    intro q
    rw [List.all_eq_true]
    intro r hr
    obtain ⟨b, _, rfl⟩ := List.mem_map.1 hr
    rfl
  have et : List.take k (zRows l) = zRows (l.take k) := by simp [zRows, List.map_take]
  have ed : List.drop k (zRows l) = zRows (l.drop k) := by simp [zRows, List.map_drop]
  have lt1 := zRows_len (l.take k)
  have ld1 := zRows_len (l.drop k)
  rw [List.length_take, Nat.min_eq_left k1] at lt1
  rw [List.length_drop] at ld1
  have ha1 := hz (l.take k)
  have ha2 := hz (l.drop k)
  rw [et, ed] at er
  generalize hT : zRows (l.take k) = T at *
  generalize hD : zRows (l.drop k) = D at *
  have hmin : min k l.length = k := Nat.min_eq_left k1
  have k1' : (k : Int) ≤ l.length := by omega
  have a1 : k * 8 ≤ 140737488355328 := by omega
  have a2 : k ≤ 140737488355328 := by omega
  have a3 : (k + 1) * 8 ≤ 140737488355328 := by omega
  have a4 : k + 1 ≤ 140737488355328 := by omega
  have a5 : (k + 1 + (l.length - k)) * 8 ≤ 140737488355328 := by omega
  have a6 : k + 1 + (l.length - k) ≤ 140737488355328 := by omega
  have hll : l.length < 1001 := by omega
  obtain ⟨q, hq⟩ : ∃ q, k + 1 + (l.length - k) = q := ⟨_, rfl⟩
  have hq2 : k + (l.length - k + 1) = q := by omega
  rw [hq] at a5 a6
  generalize hdl : l.length - k = e2 at *
  by_cases hlt : k < l.length
  · have hlt' : (k : Int) < l.length := by omega
    have ha : l[k]? = some l[k] := List.getElem?_eq_getElem hlt
    have hge := k3 _ ha
    generalize l[k] = a at ha hge
    have ga := zRows_get ha
    have ga' : (zRows l)[k]'(by rw [eL]; exact hlt) = [PV.int .i64 a] := (List.getElem?_eq_some_iff.1 ga).2
    have hn : ¬ a < n := by omega
    by_cases e : a = n
    · subst e
      unfold c28b0
      simp [evCode, evOps, evOne, evOp, evPur, evEff, evPur.chunks, fillP, AOp.isEff, AO.ev, putP, PV.cells, PV.leaf, getB, getM, mapE, iterE, keyC, mapRows, mfind, eq1, eqL, scal, binP, unP, minP, maxP, foldP, PV.lt, PV.lt.ltL, endP, expoAll, expoG, expo, expo.expoL, frIds, frIds.frIdsL, nodupN, kill, cls, clsFuel, resO, RV.get, loadP, evC_p, evC_s, endS, endT, rowsOf, callP, thinL, unfr, unfr.unfrL, PV.noMem, PV.noMem.noMemL, optI, mapO, norm, trimT, trimB, forget, hasN, blksLt, List.set, softChk, softGo, softRd, effTg, rdP, S28, eL, hlt, hlt', ga, ga']
      exact ⟨l, rfl, hp, by omega, fun x => ⟨.inl, fun h => h.elim id (fun h => h ▸ List.mem_of_getElem? ha)⟩⟩
    · have hpw := ins_pw hp k2 (fun b hb => by rw [ha] at hb; obtain rfl := Option.some.inj hb; omega)
      unfold c28b0
      simp [evCode, evOps, evOne, evOp, evPur, evEff, evPur.chunks, fillP, AOp.isEff, AO.ev, putP, PV.cells, PV.leaf, getB, getM, mapE, iterE, keyC, mapRows, mfind, eq1, eqL, scal, binP, unP, minP, maxP, foldP, PV.lt, PV.lt.ltL, endP, expoAll, expoG, expo, expo.expoL, frIds, frIds.frIdsL, nodupN, kill, cls, clsFuel, resO, RV.get, loadP, evC_p, evC_s, endS, endT, rowsOf, callP, thinL, unfr, unfr.unfrL, PV.noMem, PV.noMem.noMemL, optI, mapO, norm, trimT, trimB, forget, hasN, blksLt, List.set, softChk, softGo, softRd, effTg, rdP, S28, eL, hlt, hlt', ga, ga', hn, e, et, ed, lt1, ld1, ha1, ha2, k1, k1', a1, a2, a3, a4, a5, a6, hq, hq2]
      refine ⟨l.take k ++ n :: l.drop k, by rw [er], hpw, by simp; omega, ins _ rfl⟩
  · have hlt' : ¬ (k : Int) < l.length := by omega
    have hpw := ins_pw hp k2 (fun b hb => by rw [List.getElem?_eq_none (by omega)] at hb; cases hb)
    unfold c28b0
    simp [evCode, evOps, evOne, evOp, evPur, evEff, evPur.chunks, fillP, AOp.isEff, AO.ev, putP, PV.cells, PV.leaf, getB, getM, mapE, iterE, keyC, mapRows, mfind, eq1, eqL, scal, binP, unP, minP, maxP, foldP, PV.lt, PV.lt.ltL, endP, expoAll, expoG, expo, expo.expoL, frIds, frIds.frIdsL, nodupN, kill, cls, clsFuel, resO, RV.get, loadP, evC_p, evC_s, endS, endT, rowsOf, callP, thinL, unfr, unfr.unfrL, PV.noMem, PV.noMem.noMemL, optI, mapO, norm, trimT, trimB, forget, hasN, blksLt, List.set, softChk, softGo, softRd, effTg, rdP, S28, eL, hlt, hlt', et, ed, lt1, ld1, ha1, ha2, k1, k1', a1, a2, a3, a4, a5, a6, hq, hq2]
    refine ⟨l.take k ++ n :: l.drop k, by rw [er], hpw, by simp; omega, ins _ rfl⟩
def S13 (a : List Int) (k : Nat) : St := ⟨[.sl false 1 (zRows a), .sl false 1 (zRows a), .top, .top, .top, .int .i64 k] ++ List.replicate 20 .top, []⟩
theorem f13 (a : List Int) (hl : a.length ≤ 2000) : evE Dg 13 [.sl false 1 (zRows a), .sl false 1 (zRows a)] = some (.bool true) := by
  have eL := zRows_len a
  refine evE_intro 2100 D13 rfl ?_
  have H := loop_all (body := evCode (evC Dg) 2100 c13b0) (keep := [0, 1, 5]) (n0 := 0) (fuel := 2100) a (S13 a) (fun _ => true) (fun _ => True)
    (by
      intro k x ha hk hq
      have w1 := wrap_i64 ((k : Int) + 1) (by omega) (by omega)
      have hk' : (k : Int) < a.length := by omega
      have ga := zRows_get ha
      have ga' : (zRows a)[k]'(by rw [eL]; exact hk) = [PV.int .i64 x] := (List.getElem?_eq_some_iff.1 ga).2
      unfold c13b0
      simp [evCode, evOps, evOne, evOp, evPur, evEff, evPur.chunks, fillP, AOp.isEff, AO.ev, putP, PV.cells, PV.leaf, getB, getM, mapE, iterE, keyC, mapRows, mfind, eq1, eqL, scal, binP, unP, minP, maxP, foldP, PV.lt, PV.lt.ltL, endP, expoAll, expoG, expo, expo.expoL, frIds, frIds.frIdsL, nodupN, kill, cls, clsFuel, resO, RV.get, loadP, evC_p, evC_s, endS, endT, rowsOf, callP, thinL, unfr, unfr.unfrL, PV.noMem, PV.noMem.noMemL, optI, mapO, norm, trimT, trimB, forget, hasN, blksLt, List.set, softChk, softGo, softRd, effTg, rdP, S13, eL, ga, ga', hk, hk', w1])
    (by intro k x ha hk hq; cases hq)
    (by
      intro s
      unfold c13b0
      simp [evCode, evOps, evOne, evOp, evPur, evEff, evPur.chunks, fillP, AOp.isEff, AO.ev, putP, PV.cells, PV.leaf, getB, getM, mapE, iterE, keyC, mapRows, mfind, eq1, eqL, scal, binP, unP, minP, maxP, foldP, PV.lt, PV.lt.ltL, endP, expoAll, expoG, expo, expo.expoL, frIds, frIds.frIdsL, nodupN, kill, cls, clsFuel, resO, RV.get, loadP, evC_p, evC_s, endS, endT, rowsOf, callP, thinL, unfr, unfr.unfrL, PV.noMem, PV.noMem.noMemL, optI, mapO, norm, trimT, trimB, forget, hasN, blksLt, List.set, softChk, softGo, softRd, effTg, rdP, S13, eL]) (by omega)
  unfold c13
  simp [evCode, evOps, evOne, evOp, evPur, evEff, evPur.chunks, fillP, AOp.isEff, AO.ev, putP, PV.cells, PV.leaf, getB, getM, mapE, iterE, keyC, mapRows, mfind, eq1, eqL, scal, binP, unP, minP, maxP, foldP, PV.lt, PV.lt.ltL, endP, expoAll, expoG, expo, expo.expoL, frIds, frIds.frIdsL, nodupN, kill, cls, clsFuel, resO, RV.get, loadP, evC_p, evC_s, endS, endT, rowsOf, callP, thinL, unfr, unfr.unfrL, PV.noMem, PV.noMem.noMemL, optI, mapO, norm, trimT, trimB, forget, hasN, blksLt, List.set, softChk, softGo, softRd, effTg, rdP, eL]
  generalize hE : evLoop _ _ _ _ _ = E
  rcases H _ _ hE (by simp [evCode, evOps, evOne, evOp, evPur, evEff, evPur.chunks, fillP, AOp.isEff, AO.ev, putP, PV.cells, PV.leaf, getB, getM, mapE, iterE, keyC, mapRows, mfind, eq1, eqL, scal, binP, unP, minP, maxP, foldP, PV.lt, PV.lt.ltL, endP, expoAll, expoG, expo, expo.expoL, frIds, frIds.frIdsL, nodupN, kill, cls, clsFuel, resO, RV.get, loadP, evC_p, evC_s, endS, endT, rowsOf, callP, thinL, unfr, unfr.unfrL, PV.noMem, PV.noMem.noMemL, optI, mapO, norm, trimT, trimB, forget, hasN, blksLt, List.set, softChk, softGo, softRd, effTg, rdP, S13, eL]) with ⟨k1, k2⟩ | ⟨k1, _⟩
  · rw [k2]
    unfold c13b0
    simp [evCode, evOps, evOne, evOp, evPur, evEff, evPur.chunks, fillP, AOp.isEff, AO.ev, putP, PV.cells, PV.leaf, getB, getM, mapE, iterE, keyC, mapRows, mfind, eq1, eqL, scal, binP, unP, minP, maxP, foldP, PV.lt, PV.lt.ltL, endP, expoAll, expoG, expo, expo.expoL, frIds, frIds.frIdsL, nodupN, kill, cls, clsFuel, resO, RV.get, loadP, evC_p, evC_s, endS, endT, rowsOf, callP, thinL, unfr, unfr.unfrL, PV.noMem, PV.noMem.noMemL, optI, mapO, norm, trimT, trimB, forget, hasN, blksLt, List.set, softChk, softGo, softRd, effTg, rdP, S13, eL]
  · simp at k1
end Go.Proofs.Ytlnaibkpmklkiaa
