/- ring: the contents of a buffer. -/
import Derived.Test.YthoncigfbhinlaaRgE
namespace Go.Proofs.Ythoncigfbhinlaa
open Go Go.RowKit
set_option linter.unusedVariables false
set_option linter.unusedSimpArgs false
set_option maxHeartbeats 8000000

/-- the bytes from a position on -/
def contF (D : List Nat) (s L : Nat) : List Nat := (D.drop (s % D.length) ++ D).take L
theorem contF_len {D : List Nat} {s L : Nat} (h : L ≤ D.length) : (contF D s L).length = L := by
  unfold contF
  rw [List.length_take, List.length_append]
  omega
theorem contF_ok {D : List Nat} {s L : Nat} (h : okB D) : okB (contF D s L) := by
  intro z hz
  have := List.mem_of_mem_take hz
  rcases List.mem_append.1 this with q | q
  · exact h z (List.mem_of_mem_drop q)
  · exact h z q
theorem contF_get {D : List Nat} {s L j : Nat} (hL : L ≤ D.length) (hj : j < L) : (contF D s L)[j]? = D[(s + j) % D.length]? := by
  unfold contF
  have h0 : 0 < D.length := by omega
  obtain ⟨a, ha⟩ := ex_eq (s % D.length)
  have hlt := Nat.mod_lt s h0
  have e : (s + j) % D.length = (a + j) % D.length := by rw [← ha, Nat.mod_add_mod]
  rw [ha] at hlt
  rw [List.getElem?_take_of_lt hj, ha, e]
  by_cases c : j < D.length - a
  · have e2 : (a + j) % D.length = a + j := Nat.mod_eq_of_lt (by omega)
    rw [List.getElem?_append_left (by rw [List.length_drop]; exact c), List.getElem?_drop, e2]
  · have e2 : (a + j) % D.length = a + j - D.length := by rw [Nat.mod_eq_sub_mod (by omega), Nat.mod_eq_of_lt (by omega)]
    rw [List.getElem?_append_right (by rw [List.length_drop]; omega), List.length_drop, e2]
    congr 1
    omega
theorem bR_take (l : List Nat) (n : Nat) : (bR l).take n = bR (l.take n) := by simp [bR, List.map_take]
theorem bR_drop (l : List Nat) (n : Nat) : (bR l).drop n = bR (l.drop n) := by simp [bR, List.map_drop]
theorem bR_lt (l : List Nat) : (∀ r, r ∈ bR l → PV.lt.ltL 0 r = true) ↔ True := iff_true_intro (by
  intro r hr
  simp only [bR, List.mem_map] at hr
  obtain ⟨z, _, rfl⟩ := hr
  rfl)
set_option maxRecDepth 100000 in
theorem f36 (x : Bool) (p f m : Int) (D : List Nat) (s e : Nat) (h1 : 16 ≤ D.length) (h2 : D.length ≤ 65536) (hse : s ≤ e) (hL : e - s ≤ D.length) (he : e ≤ 1000000000000000) :
    evE Dg 36 [eR p (eB x D) s e f m] = some (.fr 1 (bR (contF D s (e - s)))) := by
  have e1 := bR_len D
  obtain ⟨n, hn⟩ := ex_eq D.length
  rw [hn] at h1 h2 hL
  obtain ⟨L, hLL⟩ := ex_eq (e - s)
  rw [hLL] at hL
  have w1 : IntKind.i64.wrap ((e : Int) - s) = (L : Int) := by rw [wrap_i64 _ (by omega) (by omega)]; omega
  have ht : Int.tmod (s : Int) (n : Int) = ((s % n : Nat) : Int) := by rw [Int.tmod_eq_emod_of_nonneg (by omega), Int.natCast_emod]
  have ha : s % n < n := Nat.mod_lt s (by omega)
  have hc : contF D s L = (D.drop (s % n) ++ D).take L := by unfold contF; rw [hn]
  rw [hLL, hc]
  obtain ⟨a, haa⟩ := ex_eq (s % n)
  rw [haa] at ht ha
  have n0 : ¬ n = 0 := by omega
  have n0' : ¬ (n : Int) = 0 := by omega
  have p1 : (a : Int) ≤ n := by omega
  have p2 : a ≤ n := by omega
  have m1 : (L : Int) ≤ 140737488355328 := by omega
  have m2 : (L : Int) * 1 ≤ 140737488355328 := by omega
  have k1 : List.take n (bR D) = bR D := List.take_of_length_le (by rw [e1, hn]; exact Nat.le_refl _)
  have k2 := bR_drop D a
  rw [haa, List.take_append, List.length_drop, hn]
  have e2 : (bR (D.drop a)).length = n - a := by rw [bR_len, List.length_drop, hn]
  by_cases c : L ≤ n - a
  · have c1 : Nat.min (n - a) L = L := Nat.min_eq_right c
    have c1' : min (n - a) L = L := c1
    have z1 : L - (n - a) = 0 := by omega
    have k3 := bR_take (D.drop a) L
    have e3 : (bR ((D.drop a).take L)).length = L := by rw [bR_len, List.length_take, List.length_drop, hn]; omega
    rw [z1]
    simp only [List.take_zero, List.append_nil]
    refine evE_intro 3 D36 rfl ?_
    unfold c36
    simp [evCode, evOps, evOne, evOp, evPur, evEff, evPur.chunks, fillP, AOp.isEff, AO.ev, putP, PV.cells, PV.leaf, getB, getM, mapE, keyC, mapRows, mfind, eq1, eqL, scal, binP, unP, minP, maxP, foldP, PV.lt, PV.lt.ltL, endP, expoAll, expo, expo.expoL, frIds, frIds.frIdsL, nodupN, kill, cls, clsFuel, resO, RV.get, loadP, evC_p, evC_s, endS, endT, rowsOf, callP, thinL, unfr, unfr.unfrL, PV.noMem, PV.noMem.noMemL, optI, mapO, norm, trimT, trimB, forget, hasN, blksLt, List.set, eR, eB, e1, hn, w1, ht, n0, n0', p1, p2, m1, m2, k1, k2, e2, c1, c1', k3, e3, bR_lt]
  · have c1 : Nat.min (n - a) L = n - a := Nat.min_eq_left (by omega)
    have c1' : min (n - a) L = n - a := c1
    obtain ⟨b, hb⟩ := ex_eq (n - a)
    rw [hb] at c c1 c1' e2
    have k3 : List.take b (bR (D.drop a)) = bR (D.drop a) := List.take_of_length_le (by rw [e2]; exact Nat.le_refl _)
    have k4 : List.take L (D.drop a) = D.drop a := List.take_of_length_le (by rw [List.length_drop, hn]; omega)
    rw [hb, k4]
    have c2 : Nat.min n (L - b) = L - b := Nat.min_eq_right (by omega)
    have c2' : min n (L - b) = L - b := c2
    have q1 : (b : Int) ≤ L := by omega
    have q2 : b ≤ L := by omega
    have q3 : b + (L - b) = L := by omega
    have k5 := bR_take D (L - b)
    have k6 := bR_app (D.drop a) (D.take (L - b))
    have e4 : (bR (D.take (L - b))).length = L - b := by rw [bR_len, List.length_take, hn]; omega
    refine evE_intro 3 D36 rfl ?_
    unfold c36
    simp [evCode, evOps, evOne, evOp, evPur, evEff, evPur.chunks, fillP, AOp.isEff, AO.ev, putP, PV.cells, PV.leaf, getB, getM, mapE, keyC, mapRows, mfind, eq1, eqL, scal, binP, unP, minP, maxP, foldP, PV.lt, PV.lt.ltL, endP, expoAll, expo, expo.expoL, frIds, frIds.frIdsL, nodupN, kill, cls, clsFuel, resO, RV.get, loadP, evC_p, evC_s, endS, endT, rowsOf, callP, thinL, unfr, unfr.unfrL, PV.noMem, PV.noMem.noMemL, optI, mapO, norm, trimT, trimB, forget, hasN, blksLt, List.set, eR, eB, e1, hn, hb, w1, ht, n0, n0', p1, p2, m1, m2, k1, k2, e2, c1, c1', k3, c2, c2', q1, q2, q3, k5, k6, e4, bR_lt]
end Go.Proofs.Ythoncigfbhinlaa
