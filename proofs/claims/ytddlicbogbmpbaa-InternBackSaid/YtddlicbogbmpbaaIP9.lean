/- intern: Reverse, Stack. -/
import Derived.Test.YtddlicbogbmpbaaIP8
namespace Go.Proofs.Ytddlicbogbmpbaa
open Go Go.RowKit
set_option linter.unusedVariables false
set_option linter.unusedSimpArgs false
set_option maxHeartbeats 4000000

def rowN (t : List UInt8) : List PV := [.str t]
/-- a list whose first k and last k elements changed places -/
def rv {α : Type} (l : List α) (k : Nat) : List α := (l.drop (l.length - k)).reverse ++ (l.take (l.length - k)).drop k ++ (l.take k).reverse

theorem rv_len {α : Type} (l : List α) (k : Nat) (h : 2 * k ≤ l.length) : (rv l k).length = l.length := by
  simp [rv]; omega
theorem rv_get {α : Type} (l : List α) (k i : Nat) (h : 2 * k ≤ l.length) (hi : i < l.length) : (rv l k)[i]? = if i < k ∨ l.length - k ≤ i then l[l.length - 1 - i]? else l[i]? := by
  unfold rv
  by_cases h1 : i < k
  · rw [if_pos (.inl h1), List.append_assoc, List.getElem?_append_left (by simp; omega), List.getElem?_reverse (by simp; omega), List.getElem?_drop]
    congr 1
    simp; omega
  · by_cases h2 : l.length - k ≤ i
    · rw [if_pos (.inr h2), List.getElem?_append_right (by simp; omega), List.getElem?_reverse (by simp; omega), List.getElem?_take, if_pos (by simp; omega)]
      congr 1
      simp; omega
    · rw [if_neg (by omega), List.getElem?_append_left (by simp; omega), List.getElem?_append_right (by simp; omega), List.getElem?_drop, List.getElem?_take, if_pos (by simp; omega)]
      congr 1
      simp; omega
theorem rv_step {α : Type} (l : List α) (k : Nat) (h : 2 * k + 1 < l.length) (a b : α) (ha : l[k]? = some a) (hb : l[l.length - 1 - k]? = some b) :
    ((rv l k).set k b).set (l.length - 1 - k) a = rv l (k + 1) := by
  apply List.ext_getElem?
  intro i
  by_cases hi : i < l.length
  · rw [rv_get l (k + 1) i (by omega) hi]
    by_cases e1 : i = l.length - 1 - k
    · subst e1
      rw [List.getElem?_set_self (by simp; rw [rv_len l k (by omega)]; omega), if_pos (.inr (by omega))]
      rw [← ha]; congr 1; omega
    · rw [List.getElem?_set_ne (by omega)]
      by_cases e2 : i = k
      · subst e2
        rw [List.getElem?_set_self (by rw [rv_len l i (by omega)]; omega), if_pos (.inl (by omega)), ← hb]
      · rw [List.getElem?_set_ne (by omega), rv_get l k i (by omega) hi]
        by_cases c : i < k ∨ l.length - k ≤ i
        · rw [if_pos c, if_pos (by omega)]
        · rw [if_neg c, if_neg (by omega)]
  · rw [List.getElem?_eq_none (by simp; rw [rv_len l k (by omega)]; omega), List.getElem?_eq_none (by rw [rv_len l (k + 1) (by omega)]; omega)]
theorem rv_end {α : Type} (l : List α) (k : Nat) (h : l.length ≤ 2 * k + 1) (h2 : 2 * k ≤ l.length) : rv l k = l.reverse := by
  apply List.ext_getElem?
  intro i
  by_cases hi : i < l.length
  · rw [rv_get l k i h2 hi, List.getElem?_reverse hi]
    split
    · rfl
    · congr 1; omega
  · rw [List.getElem?_eq_none (by rw [rv_len l k h2]; omega), List.getElem?_eq_none (by simp; omega)]

def SR (g : Option Blk) (v : Nat) (l : List (List UInt8)) (k : Nat) : St := ⟨[.own 1 v 0 l.length, .top, .int .i64 k, .int .i64 ((l.length : Int) - 1 - k)] ++ List.replicate 24 .top, [g, some ⟨v, 1, true, (rv l k).map rowN⟩]⟩
theorem s27 (g : Option Blk) (hg : g = some ⟨0, 1, true, []⟩) (v : Nat) (l : List (List UInt8)) (hl : l.length ≤ 1000000) :
    evS Dg 27 [.own 1 v 0 l.length] [g, some ⟨v, 1, true, l.map rowN⟩] = some (.tup [], [g, some ⟨v, 1, true, l.reverse.map rowN⟩]) := by
  subst hg
  refine evS_intro (l.length + 2) D27 rfl ?_
  have w0 := wrap_i64 ((l.length : Int) - 1) (by omega) (by omega)
  have H := loop_stop (body := evCode (evC Dg) (l.length + 2) c27b0) (keep := [0, 2, 3]) (n0 := 2) (fuel := l.length + 2) (SR (some ⟨0, 1, true, []⟩) v l) (fun k => l.length - 2 * k) (fun k => 2 * k ≤ l.length) (fun k => l.length ≤ 2 * k + 1)
    (by
      intro k hk hs
      have h1 : k < l.length := by omega
      have h2 : l.length - 1 - k < l.length := by omega
      obtain ⟨a, ha⟩ : ∃ a, l[k]? = some a := ⟨l[k], List.getElem?_eq_getElem h1⟩
      obtain ⟨b, hb⟩ : ∃ b, l[l.length - 1 - k]? = some b := ⟨_, List.getElem?_eq_getElem h2⟩
      have g1 : (rv l k)[k]? = some a := by rw [rv_get l k k hk h1, if_neg (by omega), ha]
      have g2 : (rv l k)[l.length - 1 - k]? = some b := by rw [rv_get l k _ hk h2, if_neg (by omega), hb]
      have m1 : ((rv l k).map rowN)[k]? = some [.str a] := by simp [g1, rowN]
      have m2 : ((rv l k).map rowN)[l.length - 1 - k]? = some [.str b] := by simp [g2, rowN]
      have m3 : (((rv l k).map rowN).set k [.str b])[l.length - 1 - k]? = some [.str b] := by rw [List.getElem?_set_ne (by omega), m2]
      have n1 : ∀ h, (rv l k)[k]'h = a := fun h => by rw [List.getElem?_eq_getElem h] at g1; exact Option.some.inj g1
      have n2 : ∀ h, (rv l k)[l.length - 1 - k]'h = b := fun h => by rw [List.getElem?_eq_getElem h] at g2; exact Option.some.inj g2
      have n3 : ∀ h, (((rv l k).map rowN).set k [.str b])[l.length - 1 - k]'h = [.str b] := fun h => by rw [List.getElem?_eq_getElem h] at m3; exact Option.some.inj m3
      have c1 : (k : Int) < (l.length : Int) - 1 - k := by omega
      have w1 := wrap_i64 ((k : Int) + 1) (by omega) (by omega)
      have w2 := wrap_i64 ((l.length : Int) - 1 - k - 1) (by omega) (by omega)
      have hj : ((l.length : Int) - 1 - k).toNat = l.length - 1 - k := by omega
      have hj0 : (k : Int) ≤ (l.length : Int) - 1 := by omega
      have hlen : (rv l k).length = l.length := rv_len l k hk
      have hst := rv_step l k (by omega) a b ha hb
      have hs2 : (((rv l k).map rowN).set k [.str b]).set (l.length - 1 - k) [.str a] = (rv l (k + 1)).map rowN := by
        rw [← hst]; simp [List.map_set, rowN]
      have hle : (k : Int) + 1 = ((k + 1 : Nat) : Int) := by omega
      have e2 : (l.length : Int) - 1 - k - 1 = (l.length : Int) - 1 - ((k + 1 : Nat) : Int) := by omega
      refine ⟨k + 1, ?_⟩
      unfold c27b0
      simp [evCode, evOps, evOne, evOp, evPur, evEff, evPur.chunks, fillP, AOp.isEff, AO.ev, putP, PV.cells, PV.leaf, getB, getM, mapE, keyC, mapRows, mfind, eq1, eqL, scal, binP, unP, minP, maxP, foldP, PV.lt, PV.lt.ltL, endP, expoAll, expo, expo.expoL, frIds, frIds.frIdsL, nodupN, kill, cls, clsFuel, resO, RV.get, loadP, evC_p, evC_s, endS, endT, rowsOf, callP, thinL, unfr, unfr.unfrL, PV.noMem, PV.noMem.noMemL, optI, mapO, norm, trimT, trimB, forget, hasN, blksLt, List.set, SR, c1, w1, w2, hj, hj0, h1, h2, m1, m2, m3, n1, n2, n3, hlen, hs2, rowN]
      trace_state; omega)
    (by
      intro k hk hs s
      have c1 : ¬ (k : Int) < (l.length : Int) - 1 - k := by omega
      unfold c27b0
      simp [evCode, evOps, evOne, evOp, evPur, evEff, evPur.chunks, fillP, AOp.isEff, AO.ev, putP, PV.cells, PV.leaf, getB, getM, mapE, keyC, mapRows, mfind, eq1, eqL, scal, binP, unP, minP, maxP, foldP, PV.lt, PV.lt.ltL, endP, expoAll, expo, expo.expoL, frIds, frIds.frIdsL, nodupN, kill, cls, clsFuel, resO, RV.get, loadP, evC_p, evC_s, endS, endT, rowsOf, callP, thinL, unfr, unfr.unfrL, PV.noMem, PV.noMem.noMemL, optI, mapO, norm, trimT, trimB, forget, hasN, blksLt, List.set, SR, c1]) 0 (by simp) (by omega)
  unfold c27
  simp [evCode, evOps, evOne, evOp, evPur, evEff, evPur.chunks, fillP, AOp.isEff, AO.ev, putP, PV.cells, PV.leaf, getB, getM, mapE, keyC, mapRows, mfind, eq1, eqL, scal, binP, unP, minP, maxP, foldP, PV.lt, PV.lt.ltL, endP, expoAll, expo, expo.expoL, frIds, frIds.frIdsL, nodupN, kill, cls, clsFuel, resO, RV.get, loadP, evC_p, evC_s, endS, endT, rowsOf, callP, thinL, unfr, unfr.unfrL, PV.noMem, PV.noMem.noMemL, optI, mapO, norm, trimT, trimB, forget, hasN, blksLt, List.set, w0]
  generalize hE : evLoop _ _ _ _ _ = E
  obtain ⟨k, k1, k2, k3⟩ := H _ _ hE (by simp [evCode, evOps, evOne, evOp, evPur, evEff, evPur.chunks, fillP, AOp.isEff, AO.ev, putP, PV.cells, PV.leaf, getB, getM, mapE, keyC, mapRows, mfind, eq1, eqL, scal, binP, unP, minP, maxP, foldP, PV.lt, PV.lt.ltL, endP, expoAll, expo, expo.expoL, frIds, frIds.frIdsL, nodupN, kill, cls, clsFuel, resO, RV.get, loadP, evC_p, evC_s, endS, endT, rowsOf, callP, thinL, unfr, unfr.unfrL, PV.noMem, PV.noMem.noMemL, optI, mapO, norm, trimT, trimB, forget, hasN, blksLt, List.set, SR, rv])
  rw [k3]
  have c1 : ¬ (k : Int) < (l.length : Int) - 1 - k := by omega
  have hr := rv_end l k k2 k1
  unfold c27b0
  simp [evCode, evOps, evOne, evOp, evPur, evEff, evPur.chunks, fillP, AOp.isEff, AO.ev, putP, PV.cells, PV.leaf, getB, getM, mapE, keyC, mapRows, mfind, eq1, eqL, scal, binP, unP, minP, maxP, foldP, PV.lt, PV.lt.ltL, endP, expoAll, expo, expo.expoL, frIds, frIds.frIdsL, nodupN, kill, cls, clsFuel, resO, RV.get, loadP, evC_p, evC_s, endS, endT, rowsOf, callP, thinL, unfr, unfr.unfrL, PV.noMem, PV.noMem.noMemL, optI, mapO, norm, trimT, trimB, forget, hasN, blksLt, List.set, SR, c1, hr]
end Go.Proofs.Ytddlicbogbmpbaa
