/- slices.Compact of sorted ints, upon the caller's own slice. -/
import Derived.Test.YtkdalahepedghaaEvP
namespace Go.Proofs.Ytkdalahepedghaa
open Go Go.RowKit
set_option maxHeartbeats 4000000
set_option linter.unusedVariables false
set_option linter.unusedSimpArgs false

def zRows (l : List Int) : List (List PV) := l.map fun z => [.int .i64 z]
theorem zRows_len (l : List Int) : (zRows l).length = l.length := by simp [zRows]
theorem zRows_get {l : List Int} {i : Nat} {z : Int} (h : l[i]? = some z) : (zRows l)[i]? = some [.int .i64 z] := by simp [zRows, h]
theorem zRows_set (l : List Int) (i : Nat) (z : Int) : (zRows l).set i [.int .i64 z] = zRows (l.set i z) := by simp [zRows, List.map_set]

/-- what is kept so far, of the first i numbers: r is the slice as it is now -/
structure Ci (zs : List Int) (i : Nat) (x : List Int × List Int) : Prop where
  rl : x.2.length = zs.length
  kl : x.1.length + 1 ≤ i
  pre : x.2.take x.1.length = x.1
  suf : ∀ j, i ≤ j + 1 → x.2[j]? = zs[j]?
  last : ∀ z, zs[i - 1]? = some z → ∀ a, a ∈ x.1 → a ≤ z
  pw : x.1.Pairwise (· < ·)
  mem : ∀ z, z ∈ x.1 ↔ z ∈ zs.take i
def cstep (zs : List Int) (i : Nat) (x : List Int × List Int) (a : Int) : List Int × List Int :=
  if zs[i - 1]? = some a then x else (x.1 ++ [a], x.2.set x.1.length a)
theorem Ci.next {zs : List Int} (hs : zs.Pairwise (· ≤ ·)) {i : Nat} {x : List Int × List Int} (h : Ci zs i x) (hi : 0 < i) {a : Int} (ha : zs[i]? = some a) : Ci zs (i + 1) (cstep zs i x a) := by
  obtain ⟨hil, hae⟩ := List.getElem?_eq_some_iff.1 ha
  have hp : zs[i - 1]? = some zs[i - 1] := List.getElem?_eq_getElem (by omega)
  have hle : zs[i - 1] ≤ a := by
    rw [← hae]
    exact List.pairwise_iff_getElem.1 hs (i - 1) i (by omega) hil (by omega)
  have ht : zs.take (i + 1) = zs.take i ++ [a] := by rw [List.take_add_one, ha]; rfl
  have hpm : zs[i - 1] ∈ zs.take i := by
    rw [List.mem_take_iff_getElem]
    exact ⟨i - 1, by omega, rfl⟩
  have hkl := h.kl
  unfold cstep
  by_cases e : zs[i - 1]? = some a
  · rw [if_pos e]
    refine ⟨h.rl, by have := h.kl; omega, h.pre, fun j hj => h.suf j (by omega), ?_, h.pw, ?_⟩
    · intro z hz b hb
      simp only [Nat.add_sub_cancel] at hz
      rw [ha] at hz
      obtain rfl := Option.some.inj hz
      exact h.last _ e b hb
    · intro z
      rw [h.mem, ht, List.mem_append, List.mem_singleton]
      constructor
      · exact .inl
      · rintro (q | rfl)
        · exact q
        · rw [hp] at e
          rw [← Option.some.inj e]
          exact hpm
  · rw [if_neg e]
    have hlt : zs[i - 1] < a := by
      rw [hp] at e
      have : ¬ zs[i - 1] = a := fun q => e (by rw [q])
      omega
    have hk : x.1.length < x.2.length := by rw [h.rl]; omega
    refine ⟨by simp [h.rl], by simp; omega, ?_, ?_, ?_, ?_, ?_⟩
    · show (x.2.set x.1.length a).take (x.1 ++ [a]).length = x.1 ++ [a]
      have := h.pre
      rw [List.length_append, List.length_singleton, List.take_add_one, List.getElem?_set_self hk, List.take_set_of_le (Nat.le_refl _), this]
      rfl
    · intro j hj
      show (x.2.set x.1.length a)[j]? = zs[j]?
      rw [List.getElem?_set_ne (by omega)]
      exact h.suf j (by omega)
    · intro z hz b hb
      simp only [Nat.add_sub_cancel] at hz
      rw [ha] at hz
      obtain rfl := Option.some.inj hz
      rcases List.mem_append.1 hb with hb | hb
      · have := h.last _ hp b hb
        omega
      · simp at hb; omega
    · show (x.1 ++ [a]).Pairwise (· < ·)
      rw [List.pairwise_append]
      refine ⟨h.pw, by simp, ?_⟩
      intro b hb c hc
      simp at hc
      subst hc
      have := h.last _ hp b hb
      omega
    · intro z
      show z ∈ x.1 ++ [a] ↔ _
      rw [ht, List.mem_append, List.mem_append, h.mem]

def S29i (v : Nat) (zs : List Int) (K i : Nat) (x : List Int × List Int) : St :=
  ⟨[.own 1 v 0 zs.length, .top, .top, .int .i64 x.1.length, .own 1 v K (zs.length - K), .int .i64 ((i : Int) - K)] ++ List.replicate 55 .top, [some ⟨0, 1, true, []⟩, some ⟨v, 1, true, zRows x.2⟩, some ⟨0, 1, true, []⟩]⟩
set_option maxRecDepth 100000 in
theorem step29i (v : Nat) (zs : List Int) (hs : zs.Pairwise (· ≤ ·)) (hl : zs.length ≤ 2000) (K i : Nat) (hK : K < i) (x : List Int × List Int) (h : Ci zs i x) (a : Int) (ha : zs[i]? = some a) :
    ∃ s', evCode (evC Dg) 2100 c29b0 (S29i v zs K i x) = some (.normal s') ∧ norm [0, 3, 4, 5] 3 s' = S29i v zs K (i + 1) (cstep zs i x a) := by
  obtain ⟨out, r⟩ := x
  have hi := (List.getElem?_eq_some_iff.1 ha).1
  have hkl : out.length + 1 ≤ i := h.kl
  have hrl : r.length = zs.length := h.rl
  have hri : r[i]? = some a := (h.suf i (by omega)).trans ha
  have hp : zs[i - 1]? = some zs[i - 1] := List.getElem?_eq_getElem (by omega)
  have hrp : r[i - 1]? = some zs[i - 1] := (h.suf (i - 1) (by omega)).trans hp
  unfold cstep
  generalize zs[i - 1] = b at hp hrp
  rw [hp]
  have gi := zRows_get hri
  have gp := zRows_get hrp
  have eL := zRows_len r
  rw [hrl] at eL
  have gi' : (zRows r)[i]'(by rw [eL]; exact hi) = [PV.int .i64 a] := (List.getElem?_eq_some_iff.1 gi).2
  have gp' : (zRows r)[i - 1]'(by rw [eL]; omega) = [PV.int .i64 b] := (List.getElem?_eq_some_iff.1 gp).2
  have w1 := wrap_i64 ((i : Int) - K + 1) (by omega) (by omega)
  have w4 := wrap_i64 ((i : Int) + 1 - K) (by omega) (by omega)
  have hck : out.length < r.length := by omega
  have hrk : r[out.length]? = some r[out.length] := List.getElem?_eq_getElem hck
  generalize r[out.length] = c at hrk
  have gk := zRows_get hrk
  have gk' : (zRows r)[out.length]'(by rw [eL]; omega) = [PV.int .i64 c] := (List.getElem?_eq_some_iff.1 gk).2
  have w2 := wrap_i64 ((i : Int) - K - 1) (by omega) (by omega)
  have w3 := wrap_i64 ((out.length : Int) + 1) (by omega) (by omega)
  have c1 : (i : Int) - K < ((zs.length - K : Nat) : Int) := by omega
  have c2 : (K : Int) ≤ (i : Int) := by omega
  have c3 : ((i : Int) - K).toNat = i - K := by omega
  have c4 : K + (i - K) = i := by omega
  have c5 : (K : Int) ≤ (i : Int) - 1 := by omega
  have c6 : (i : Int) - K - 1 < ((zs.length - K : Nat) : Int) := by omega
  have c7 : ((i : Int) - K - 1).toNat = i - K - 1 := by omega
  have c8 : K + (i - K - 1) = i - 1 := by omega
  have c9 : (0 : Int) ≤ (i : Int) - K - 1 := by omega
  have c10 : i - 1 < zs.length := by omega
  have c11 : (out.length : Int) < zs.length := by omega
  have c12 : out.length < zs.length := by omega
  have c13 : (i : Int) - K + 1 = (i : Int) + 1 - K := by omega
  have c14 : (0 : Int) ≤ (i : Int) - K := by omega
  have d4 : (1 : Int) ≤ (i : Int) - K := by omega
  have d1 : i - K < zs.length - K := by omega
  have d2 : K + (zs.length - K) ≤ zs.length := by omega
  have d3 : i - K - 1 < zs.length - K := by omega
  unfold c29b0
  by_cases e : b = a
  · subst e
    simp [evCode, evOps, evOne, evOp, evPur, evEff, evPur.chunks, fillP, AOp.isEff, AO.ev, putP, PV.cells, PV.leaf, getB, getM, mapE, iterE, keyC, mapRows, mfind, eq1, eqL, scal, binP, unP, minP, maxP, foldP, PV.lt, PV.lt.ltL, endP, expoAll, expoG, expo, expo.expoL, frIds, frIds.frIdsL, nodupN, kill, cls, clsFuel, resO, RV.get, loadP, evC_p, evC_s, endS, endT, rowsOf, callP, thinL, unfr, unfr.unfrL, PV.noMem, PV.noMem.noMemL, optI, mapO, norm, trimT, trimB, forget, hasN, blksLt, List.set, softChk, softGo, softRd, effTg, rdP, S29i, eL, gi, gp, gi', gp', w1, w2, w3, c1, c2, c3, c4, c5, c6, c7, c8, c9, c10, c11, c12, c13, c14, d1, d2, d3, d4, w4, gk, gk', hi]
  · have e' : ¬ a = b := fun q => e q.symm
    have es := zRows_set r out.length a
    simp [evCode, evOps, evOne, evOp, evPur, evEff, evPur.chunks, fillP, AOp.isEff, AO.ev, putP, PV.cells, PV.leaf, getB, getM, mapE, iterE, keyC, mapRows, mfind, eq1, eqL, scal, binP, unP, minP, maxP, foldP, PV.lt, PV.lt.ltL, endP, expoAll, expoG, expo, expo.expoL, frIds, frIds.frIdsL, nodupN, kill, cls, clsFuel, resO, RV.get, loadP, evC_p, evC_s, endS, endT, rowsOf, callP, thinL, unfr, unfr.unfrL, PV.noMem, PV.noMem.noMemL, optI, mapO, norm, trimT, trimB, forget, hasN, blksLt, List.set, softChk, softGo, softRd, effTg, rdP, S29i, eL, gi, gp, gi', gp', w1, w2, w3, c1, c2, c3, c4, c5, c6, c7, c8, c9, c10, c11, c12, c13, c14, d1, d2, d3, d4, w4, gk, gk', hi, e, e', es]
end Go.Proofs.Ytkdalahepedghaa
