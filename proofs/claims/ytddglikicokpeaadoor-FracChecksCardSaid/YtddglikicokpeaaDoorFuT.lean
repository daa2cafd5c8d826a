/- Texts of fractions; FracChecks. -/
import Derived.Lib.ItoaNum
import Derived.Test.YtddglikicokpeaaDoorFuC
namespace Go.Proofs.YtddglikicokpeaaDoor
open Go Go.RowKit Go.Lib
set_option linter.unusedVariables false
set_option linter.unusedSimpArgs false
set_option maxHeartbeats 8000000

theorem digs_dig : ∀ (u : Nat), ∀ c ∈ decDigits u, 48 ≤ c.toNat ∧ c.toNat ≤ 57 := by
  intro u
  induction u using Nat.strongRecOn with
  | _ u ih =>
    intro c hc
    rw [decDigits] at hc
    split at hc
    · simp only [List.mem_singleton] at hc
      subst hc
      have : (UInt8.ofNat (48 + u)).toNat = 48 + u := by simp [UInt8.toNat_ofNat']; omega
      omega
    · rw [List.mem_append] at hc
      rcases hc with hc | hc
      · exact ih (u / 10) (by omega) c hc
      · simp only [List.mem_singleton] at hc
        subst hc
        have : (UInt8.ofNat (48 + u % 10)).toNat = 48 + u % 10 := by simp [UInt8.toNat_ofNat']; omega
        omega
theorem dig_nat (u : Nat) (h : u < 10) : (UInt8.ofNat (48 + u)).toNat = 48 + u := by simp [UInt8.toNat_ofNat']; omega
def numV (l : List UInt8) : Nat := l.foldl (fun v c => 10 * v + (c.toNat - 48)) 0
theorem numV_digs (u : Nat) : numV (decDigits u) = u := by
  induction u using Nat.strongRecOn with
  | _ u ih =>
    rw [decDigits]
    split
    · rename_i h
      unfold numV
      simp only [List.foldl_cons, List.foldl_nil]
      rw [dig_nat u h]; omega
    · have := ih (u / 10) (by omega)
      unfold numV at this ⊢
      rw [List.foldl_append, this]
      simp only [List.foldl_cons, List.foldl_nil]
      rw [dig_nat _ (by omega)]; omega
theorem digs_inj {a b : Nat} (h : decDigits a = decDigits b) : a = b := by
  rw [← numV_digs a, h, numV_digs]
theorem itoa_eq (n : Int) : itoa n = if n < 0 then 45 :: decDigits n.natAbs else decDigits n.natAbs := by
  unfold itoa
  split
  · rfl
  · rw [show n.toNat = n.natAbs by omega]
theorem itoa_inj {a b : Int} (h : itoa a = itoa b) : a = b := by
  rw [itoa_eq, itoa_eq] at h
  have key : ∀ x y : Nat, (45 : UInt8) :: decDigits x = decDigits y → False := fun x y e => by
    have := digs_dig y 45 (by rw [← e]; exact List.mem_cons_self ..)
    revert this; decide
  by_cases h1 : a < 0 <;> by_cases h2 : b < 0
  · rw [if_pos h1, if_pos h2] at h
    have := digs_inj (List.cons.inj h).2
    omega
  · rw [if_pos h1, if_neg h2] at h
    exact (key _ _ h).elim
  · rw [if_neg h1, if_pos h2] at h
    exact (key _ _ h.symm).elim
  · rw [if_neg h1, if_neg h2] at h
    have := digs_inj h
    omega
theorem itoa_no (n : Int) : ∀ c ∈ itoa n, c ≠ 47 := by
  intro c hc e
  subst e
  rw [itoa_eq] at hc
  have key : ∀ x : Nat, (47 : UInt8) ∈ decDigits x → False := fun x h => by
    have := digs_dig x 47 h
    revert this; decide
  split at hc
  · rcases List.mem_cons.1 hc with h | h
    · revert h; decide
    · exact key _ h
  · exact key _ hc
theorem sep_inj : ∀ {x y u v : List UInt8}, (∀ c ∈ x, c ≠ 47) → (∀ c ∈ y, c ≠ 47) → x ++ 47 :: u = y ++ 47 :: v → x = y ∧ u = v
  | [], [], u, v, _, _, h => ⟨rfl, (List.cons.inj h).2⟩
  | [], c :: y, u, v, _, hy, h => by
    have := (List.cons.inj h).1
    exact absurd this.symm (hy c (List.mem_cons_self ..))
  | c :: x, [], u, v, hx, _, h => by
    have := (List.cons.inj h).1
    exact absurd this (hx c (List.mem_cons_self ..))
  | c :: x, d :: y, u, v, hx, hy, h => by
    obtain ⟨h1, h2⟩ := List.cons.inj h
    obtain ⟨e1, e2⟩ := sep_inj (fun a ha => hx a (List.mem_cons_of_mem _ ha)) (fun a ha => hy a (List.mem_cons_of_mem _ ha)) h2
    exact ⟨by rw [h1, e1], e2⟩
def txt (a : Fr) : List UInt8 := if validF a then (if a.2 = 1 then itoa a.1 else itoa a.1 ++ 47 :: itoa a.2) else []
theorem txt_inj {a b : Fr} (ha : validF a) (hb : validF b) (h : txt a = txt b) : a = b := by
  unfold txt at h
  rw [if_pos ha, if_pos hb] at h
  by_cases h1 : a.2 = 1 <;> by_cases h2 : b.2 = 1
  · rw [if_pos h1, if_pos h2] at h
    exact Prod.ext (itoa_inj h) (by rw [h1, h2])
  · rw [if_pos h1, if_neg h2] at h
    exact absurd rfl (itoa_no a.1 47 (by rw [h]; simp))
  · rw [if_neg h1, if_pos h2] at h
    exact absurd rfl (itoa_no b.1 47 (by rw [← h]; simp))
  · rw [if_neg h1, if_neg h2] at h
    obtain ⟨e1, e2⟩ := sep_inj (itoa_no _) (itoa_no _) h
    exact Prod.ext (itoa_inj e1) (itoa_inj e2)
theorem digs_ne (u : Nat) : decDigits u ≠ [] := by
  intro h
  have := congrArg List.length h
  rw [decDigits_length] at this
  have := nDigits_pos u
  simp at *
  omega
theorem nDigits_le : ∀ (k u : Nat), u < 10 ^ (k + 1) → nDigits u ≤ k + 1
  | 0, u, h => by rw [nDigits_small (by simpa using h)]; exact Nat.le_refl _
  | k + 1, u, h => by
    by_cases h1 : u < 10
    · rw [nDigits_small h1]; omega
    · rw [nDigits_big h1]
      have := nDigits_le k (u / 10) (by rw [Nat.pow_succ] at h; omega)
      omega
theorem digs_len (u : Nat) (h : u < 18446744073709551616) : (decDigits u).length ≤ 20 := by
  rw [decDigits_length]
  exact nDigits_le 19 u (by omega)
theorem itoa_len (n : Int) (h : i64 n) : (itoa n).length ≤ 21 := by
  obtain ⟨h1, h2⟩ := h
  rw [itoa_eq]
  have := digs_len n.natAbs (by omega)
  split
  · rw [List.length_cons]; omega
  · omega
def isS : Option PV → List UInt8 → Bool
  | some (.str a), b => a == b
  | _, _ => false
theorem isS_eq {x : Option PV} {b : List UInt8} (h : isS x b = true) : x = some (.str b) := by
  unfold isS at h
  split at h
  · simp at h; subst h; rfl
  · cases h
theorem small_pos : (List.range 10).all (fun n => isS ((evF Dg 12).p 38 [.int .u64 (n : Int)]) [UInt8.ofNat (48 + n)]) = true := by kernel_rfl
theorem f38_small (u : Nat) (h : u < 10) : evE Dg 38 [.int .u64 (u : Int)] = some (.str [UInt8.ofNat (48 + u)]) := by
  have := List.all_eq_true.1 small_pos u (List.mem_range.2 h)
  exact evE_of (isS_eq this)
set_option maxRecDepth 100000 in
theorem f38 (u : Nat) (hu : u < 18446744073709551616) : evE Dg 38 [.int .u64 (u : Int)] = some (.str (decDigits u)) := by
  induction u using Nat.strongRecOn with
  | _ u ih =>
    rw [decDigits]
    split
    · rename_i h
      exact f38_small u h
    · rename_i h
      have q1 := ih (u / 10) (by omega) (by omega)
      have q2 := f38_small (u % 10) (by omega)
      have tl := digs_len (u / 10) (by omega)
      have t1 : ((u : Int)).tdiv 10 = ((u / 10 : Nat) : Int) := by rw [Int.tdiv_eq_ediv_of_nonneg (by omega)]; simp
      have t2 : ((u : Int)).tmod 10 = ((u % 10 : Nat) : Int) := by rw [Int.tmod_eq_emod_of_nonneg (by omega)]; simp
      have w1 : IntKind.u64.wrap ((u / 10 : Nat) : Int) = ((u / 10 : Nat) : Int) := wrap_u64 _ (by omega) (by omega)
      have hc : ¬ (u : Int) < 10 := by omega
      have hc' : ¬ u < 10 := h
      generalize decDigits (u / 10) = T at *
      obtain ⟨a, hA⟩ := ex_eq (u / 10)
      obtain ⟨b, hB⟩ := ex_eq (u % 10)
      rw [hA] at q1 t1 w1
      rw [hB] at q2 t2 ⊢
      have tl2 : T.length + 1 ≤ 9223372036854775807 := by omega
      have tl3 : T.length ≤ 9223372036854775806 := by omega
      clear ih
      refine evE_intro 1 D38 rfl ?_
      unfold c38
      simp [evCode, evOps, evOne, evOp, evPur, evEff, evPur.chunks, fillP, AOp.isEff, AO.ev, putP, PV.cells, PV.leaf, getB, getM, mapE, iterE, keyC, mapRows, mfind, eq1, eqL, scal, binP, unP, minP, maxP, foldP, PV.lt, PV.lt.ltL, endP, expoAll, expoG, expo, expo.expoL, frIds, frIds.frIdsL, nodupN, kill, cls, clsFuel, resO, RV.get, loadP, evC_p, evC_s, endS, endT, rowsOf, callP, thinL, unfr, unfr.unfrL, PV.noMem, PV.noMem.noMemL, optI, mapO, norm, trimT, trimB, forget, hasN, blksLt, List.set, softChk, softGo, softRd, effTg, rdP, hc, hc', q1, q2, t1, t2, w1, tl2, tl3]
theorem f55 (n : Int) (h : i64 n) : evE Dg 55 [.int .i64 n] = some (.str (itoa n)) := by
  refine evE_ext D55 rfl ?_
  unfold xItoa
  simp only
  rw [if_pos (show -9223372036854775808 ≤ n ∧ n ≤ 9223372036854775807 from h)]
theorem f37 (n : Int) (h : i64 n) : evE Dg 37 [.int .i64 n] = some (.str (itoa n)) := by
  have q := f55 n h
  refine evE_intro 1 D37 rfl ?_
  unfold c37
  simp [evCode, evOps, evOne, evOp, evPur, evEff, evPur.chunks, fillP, AOp.isEff, AO.ev, putP, PV.cells, PV.leaf, getB, getM, mapE, iterE, keyC, mapRows, mfind, eq1, eqL, scal, binP, unP, minP, maxP, foldP, PV.lt, PV.lt.ltL, endP, expoAll, expoG, expo, expo.expoL, frIds, frIds.frIdsL, nodupN, kill, cls, clsFuel, resO, RV.get, loadP, evC_p, evC_s, endS, endT, rowsOf, callP, thinL, unfr, unfr.unfrL, PV.noMem, PV.noMem.noMemL, optI, mapO, norm, trimT, trimB, forget, hasN, blksLt, List.set, softChk, softGo, softRd, effTg, rdP, q]
set_option maxRecDepth 100000 in
theorem f16 (a : Fr) (ha : i64F a) : evE Dg 16 [eF a] = some (.str (txt a)) := by
  have v1 := f13 a ha
  have q1 := f37 a.1 ha.1
  have q2 := f37 a.2 ha.2
  have l1 := itoa_len a.1 ha.1
  have l2 := itoa_len a.2 ha.2
  unfold txt
  obtain ⟨n, d⟩ := a
  simp only [eF] at *
  generalize itoa n = T at *
  generalize itoa d = U at *
  refine evE_intro 1 D16 rfl ?_
  unfold c16
  by_cases h : validF (n, d)
  · simp only [h, decide_true] at v1
    rw [if_pos h]
    by_cases h1 : d = 1
    · rw [if_pos h1]
      subst h1
      simp [evCode, evOps, evOne, evOp, evPur, evEff, evPur.chunks, fillP, AOp.isEff, AO.ev, putP, PV.cells, PV.leaf, getB, getM, mapE, iterE, keyC, mapRows, mfind, eq1, eqL, scal, binP, unP, minP, maxP, foldP, PV.lt, PV.lt.ltL, endP, expoAll, expoG, expo, expo.expoL, frIds, frIds.frIdsL, nodupN, kill, cls, clsFuel, resO, RV.get, loadP, evC_p, evC_s, endS, endT, rowsOf, callP, thinL, unfr, unfr.unfrL, PV.noMem, PV.noMem.noMemL, optI, mapO, norm, trimT, trimB, forget, hasN, blksLt, List.set, softChk, softGo, softRd, effTg, rdP, v1, q1]
    · rw [if_neg h1]
      have b1 : T.length ≤ 9223372036854775806 := by omega
      have b2 : T.length + 1 + U.length ≤ 9223372036854775807 := by omega
      simp [evCode, evOps, evOne, evOp, evPur, evEff, evPur.chunks, fillP, AOp.isEff, AO.ev, putP, PV.cells, PV.leaf, getB, getM, mapE, iterE, keyC, mapRows, mfind, eq1, eqL, scal, binP, unP, minP, maxP, foldP, PV.lt, PV.lt.ltL, endP, expoAll, expoG, expo, expo.expoL, frIds, frIds.frIdsL, nodupN, kill, cls, clsFuel, resO, RV.get, loadP, evC_p, evC_s, endS, endT, rowsOf, callP, thinL, unfr, unfr.unfrL, PV.noMem, PV.noMem.noMemL, optI, mapO, norm, trimT, trimB, forget, hasN, blksLt, List.set, softChk, softGo, softRd, effTg, rdP, v1, q1, q2, h1, b1, b2]
  · simp only [h, decide_false] at v1
    rw [if_neg h]
    simp [evCode, evOps, evOne, evOp, evPur, evEff, evPur.chunks, fillP, AOp.isEff, AO.ev, putP, PV.cells, PV.leaf, getB, getM, mapE, iterE, keyC, mapRows, mfind, eq1, eqL, scal, binP, unP, minP, maxP, foldP, PV.lt, PV.lt.ltL, endP, expoAll, expoG, expo, expo.expoL, frIds, frIds.frIdsL, nodupN, kill, cls, clsFuel, resO, RV.get, loadP, evC_p, evC_s, endS, endT, rowsOf, callP, thinL, unfr, unfr.unfrL, PV.noMem, PV.noMem.noMemL, optI, mapO, norm, trimT, trimB, forget, hasN, blksLt, List.set, softChk, softGo, softRd, effTg, rdP, v1]
set_option maxRecDepth 100000 in
theorem f17 (a : Fr) (ha : i64F a) : evE Dg 17 [eF a] = some (.str (txt a)) := by
  have v1 := f15 a ha
  obtain ⟨⟨n1, n2⟩, d1, d2⟩ := ha
  have q1 := f35 a.1 n1 n2
  have q2 := f35 a.2 d1 d2
  have q3 := f38 a.1.natAbs (by omega)
  have q4 := f38 a.2.natAbs (by omega)
  have l1 := digs_len a.1.natAbs (by omega)
  have l2 := digs_len a.2.natAbs (by omega)
  unfold txt
  obtain ⟨n, d⟩ := a
  simp only [eF] at *
  by_cases h : validF (n, d)
  · have hd0 : ¬ d < 0 := by have := h.1; simp only at this; omega
    simp only [h, decide_true] at v1
    rw [if_pos h, itoa_eq n, itoa_eq d, if_neg hd0]
    generalize decDigits n.natAbs = T at *
    generalize decDigits d.natAbs = U at *
    generalize n.natAbs = x at *
    generalize d.natAbs = y at *
    have b1 : T.length ≤ 9223372036854775806 := by omega
    have b2 : T.length + (U.length + 1) ≤ 9223372036854775807 := by omega
    have b3 : T.length + 1 ≤ 9223372036854775807 := by omega
    have b4 : T.length + 1 ≤ 9223372036854775806 := by omega
    have b5 : T.length + 1 + (U.length + 1) ≤ 9223372036854775807 := by omega
    have b6 : T.length + 1 + U.length ≤ 9223372036854775807 := by omega
    have b10 : T.length ≤ 9223372036854775805 := by omega
    have b7 : 1 + T.length ≤ 9223372036854775807 := by omega
    have b8 : 1 + T.length ≤ 9223372036854775806 := by omega
    have b9 : T.length + 1 + 1 + U.length ≤ 9223372036854775807 := by omega
    refine evE_intro 1 D17 rfl ?_
    unfold c17
    by_cases h0 : n < 0
    · rw [if_pos h0]
      by_cases h1 : d = 1
      · rw [if_pos h1]
        subst h1
        simp [evCode, evOps, evOne, evOp, evPur, evEff, evPur.chunks, fillP, AOp.isEff, AO.ev, putP, PV.cells, PV.leaf, getB, getM, mapE, iterE, keyC, mapRows, mfind, eq1, eqL, scal, binP, unP, minP, maxP, foldP, PV.lt, PV.lt.ltL, endP, expoAll, expoG, expo, expo.expoL, frIds, frIds.frIdsL, nodupN, kill, cls, clsFuel, resO, RV.get, loadP, evC_p, evC_s, endS, endT, rowsOf, callP, thinL, unfr, unfr.unfrL, PV.noMem, PV.noMem.noMemL, optI, mapO, norm, trimT, trimB, forget, hasN, blksLt, List.set, softChk, softGo, softRd, effTg, rdP, v1, q1, q2, q3, q4, h0, b1, b3, b7]
      · rw [if_neg h1]
        simp [evCode, evOps, evOne, evOp, evPur, evEff, evPur.chunks, fillP, AOp.isEff, AO.ev, putP, PV.cells, PV.leaf, getB, getM, mapE, iterE, keyC, mapRows, mfind, eq1, eqL, scal, binP, unP, minP, maxP, foldP, PV.lt, PV.lt.ltL, endP, expoAll, expoG, expo, expo.expoL, frIds, frIds.frIdsL, nodupN, kill, cls, clsFuel, resO, RV.get, loadP, evC_p, evC_s, endS, endT, rowsOf, callP, thinL, unfr, unfr.unfrL, PV.noMem, PV.noMem.noMemL, optI, mapO, norm, trimT, trimB, forget, hasN, blksLt, List.set, softChk, softGo, softRd, effTg, rdP, v1, q1, q2, q3, q4, h0, h1, b1, b2, b3, b4, b5, b6, b7, b8, b9, b10]
    · rw [if_neg h0]
      by_cases h1 : d = 1
      · rw [if_pos h1]
        subst h1
        simp [evCode, evOps, evOne, evOp, evPur, evEff, evPur.chunks, fillP, AOp.isEff, AO.ev, putP, PV.cells, PV.leaf, getB, getM, mapE, iterE, keyC, mapRows, mfind, eq1, eqL, scal, binP, unP, minP, maxP, foldP, PV.lt, PV.lt.ltL, endP, expoAll, expoG, expo, expo.expoL, frIds, frIds.frIdsL, nodupN, kill, cls, clsFuel, resO, RV.get, loadP, evC_p, evC_s, endS, endT, rowsOf, callP, thinL, unfr, unfr.unfrL, PV.noMem, PV.noMem.noMemL, optI, mapO, norm, trimT, trimB, forget, hasN, blksLt, List.set, softChk, softGo, softRd, effTg, rdP, v1, q1, q2, q3, q4, h0, b1, b3, b7]
      · rw [if_neg h1]
        simp [evCode, evOps, evOne, evOp, evPur, evEff, evPur.chunks, fillP, AOp.isEff, AO.ev, putP, PV.cells, PV.leaf, getB, getM, mapE, iterE, keyC, mapRows, mfind, eq1, eqL, scal, binP, unP, minP, maxP, foldP, PV.lt, PV.lt.ltL, endP, expoAll, expoG, expo, expo.expoL, frIds, frIds.frIdsL, nodupN, kill, cls, clsFuel, resO, RV.get, loadP, evC_p, evC_s, endS, endT, rowsOf, callP, thinL, unfr, unfr.unfrL, PV.noMem, PV.noMem.noMemL, optI, mapO, norm, trimT, trimB, forget, hasN, blksLt, List.set, softChk, softGo, softRd, effTg, rdP, v1, q1, q2, q3, q4, h0, h1, b1, b2, b3, b4, b5, b6, b7, b8, b9, b10]
  · simp only [h, decide_false] at v1
    rw [if_neg h]
    refine evE_intro 1 D17 rfl ?_
    unfold c17
    simp [evCode, evOps, evOne, evOp, evPur, evEff, evPur.chunks, fillP, AOp.isEff, AO.ev, putP, PV.cells, PV.leaf, getB, getM, mapE, iterE, keyC, mapRows, mfind, eq1, eqL, scal, binP, unP, minP, maxP, foldP, PV.lt, PV.lt.ltL, endP, expoAll, expoG, expo, expo.expoL, frIds, frIds.frIdsL, nodupN, kill, cls, clsFuel, resO, RV.get, loadP, evC_p, evC_s, endS, endT, rowsOf, callP, thinL, unfr, unfr.unfrL, PV.noMem, PV.noMem.noMemL, optI, mapO, norm, trimT, trimB, forget, hasN, blksLt, List.set, softChk, softGo, softRd, effTg, rdP, v1]
theorem f4 (a b : Fr) (ha : i64F a) (hb : i64F b) : evE Dg 4 [eF a, eF b] = some (.bool true) := by
  have h14 := f14
  have v1 := f13 a ha
  have v2 := f15 a ha
  have v3 := f13 b hb
  have t1 := f16 a ha
  have t2 := f17 a ha
  have t3 := f16 b hb
  have t4 := f17 b hb
  have hinj := @txt_inj a b
  generalize txt a = A at *
  generalize txt b = B at *
  obtain ⟨an, ad⟩ := a
  obtain ⟨bn, bd⟩ := b
  simp only [eF] at *
  by_cases h : validF (an, ad)
  · simp only [h, decide_true] at v1 v2
    by_cases h' : validF (bn, bd)
    · simp only [h', decide_true] at v3
      have hj := hinj h h'
      clear hinj h h'
      by_cases e : A = B
      · obtain ⟨e1, e2⟩ := Prod.mk.inj (hj e)
        subst e1 e2 e
        clear hj
        refine evE_intro 1 D4 rfl ?_
        unfold c4
        simp [evCode, evOps, evOne, evOp, evPur, evEff, evPur.chunks, fillP, AOp.isEff, AO.ev, putP, PV.cells, PV.leaf, getB, getM, mapE, iterE, keyC, mapRows, mfind, eq1, eqL, scal, binP, unP, minP, maxP, foldP, PV.lt, PV.lt.ltL, endP, expoAll, expoG, expo, expo.expoL, frIds, frIds.frIdsL, nodupN, kill, cls, clsFuel, resO, RV.get, loadP, evC_p, evC_s, endS, endT, rowsOf, callP, thinL, unfr, unfr.unfrL, PV.noMem, PV.noMem.noMemL, optI, mapO, norm, trimT, trimB, forget, hasN, blksLt, List.set, softChk, softGo, softRd, effTg, rdP, h14, v1, v2, v3, t1, t2, t3, t4]
      · have hab : ¬ (an = bn ∧ ad = bd) := by
          rintro ⟨rfl, rfl⟩
          rw [t1] at t3
          exact e (by cases t3; rfl)
        have hb : (an == bn && ad == bd) = false := by
          by_cases x1 : an = bn
          · have x2 : ¬ ad = bd := fun x => hab ⟨x1, x⟩
            simp [x2]
          · simp [x1]
        clear hj
        by_cases x1 : an = bn
        · have x2 : ¬ ad = bd := fun x => hab ⟨x1, x⟩
          subst x1
          have x3 : (ad == bd) = false := by simpa using x2
          clear hab hb
          refine evE_intro 1 D4 rfl ?_
          unfold c4
          simp [evCode, evOps, evOne, evOp, evPur, evEff, evPur.chunks, fillP, AOp.isEff, AO.ev, putP, PV.cells, PV.leaf, getB, getM, mapE, iterE, keyC, mapRows, mfind, eq1, eqL, scal, binP, unP, minP, maxP, foldP, PV.lt, PV.lt.ltL, endP, expoAll, expoG, expo, expo.expoL, frIds, frIds.frIdsL, nodupN, kill, cls, clsFuel, resO, RV.get, loadP, evC_p, evC_s, endS, endT, rowsOf, callP, thinL, unfr, unfr.unfrL, PV.noMem, PV.noMem.noMemL, optI, mapO, norm, trimT, trimB, forget, hasN, blksLt, List.set, softChk, softGo, softRd, effTg, rdP, h14, v1, v2, v3, t1, t2, t3, t4, e, x2, x3]
        · have x3 : (an == bn) = false := by simpa using x1
          clear hab hb
          refine evE_intro 1 D4 rfl ?_
          unfold c4
          simp [evCode, evOps, evOne, evOp, evPur, evEff, evPur.chunks, fillP, AOp.isEff, AO.ev, putP, PV.cells, PV.leaf, getB, getM, mapE, iterE, keyC, mapRows, mfind, eq1, eqL, scal, binP, unP, minP, maxP, foldP, PV.lt, PV.lt.ltL, endP, expoAll, expoG, expo, expo.expoL, frIds, frIds.frIdsL, nodupN, kill, cls, clsFuel, resO, RV.get, loadP, evC_p, evC_s, endS, endT, rowsOf, callP, thinL, unfr, unfr.unfrL, PV.noMem, PV.noMem.noMemL, optI, mapO, norm, trimT, trimB, forget, hasN, blksLt, List.set, softChk, softGo, softRd, effTg, rdP, h14, v1, v2, v3, t1, t2, t3, t4, e, x1, x3]
    · simp only [h', decide_false] at v3
      clear hinj
      refine evE_intro 1 D4 rfl ?_
      unfold c4
      simp [evCode, evOps, evOne, evOp, evPur, evEff, evPur.chunks, fillP, AOp.isEff, AO.ev, putP, PV.cells, PV.leaf, getB, getM, mapE, iterE, keyC, mapRows, mfind, eq1, eqL, scal, binP, unP, minP, maxP, foldP, PV.lt, PV.lt.ltL, endP, expoAll, expoG, expo, expo.expoL, frIds, frIds.frIdsL, nodupN, kill, cls, clsFuel, resO, RV.get, loadP, evC_p, evC_s, endS, endT, rowsOf, callP, thinL, unfr, unfr.unfrL, PV.noMem, PV.noMem.noMemL, optI, mapO, norm, trimT, trimB, forget, hasN, blksLt, List.set, softChk, softGo, softRd, effTg, rdP, h14, v1, v2, v3, t1, t2, t3, t4]
  · simp only [h, decide_false] at v1 v2
    clear hinj
    refine evE_intro 1 D4 rfl ?_
    unfold c4
    simp [evCode, evOps, evOne, evOp, evPur, evEff, evPur.chunks, fillP, AOp.isEff, AO.ev, putP, PV.cells, PV.leaf, getB, getM, mapE, iterE, keyC, mapRows, mfind, eq1, eqL, scal, binP, unP, minP, maxP, foldP, PV.lt, PV.lt.ltL, endP, expoAll, expoG, expo, expo.expoL, frIds, frIds.frIdsL, nodupN, kill, cls, clsFuel, resO, RV.get, loadP, evC_p, evC_s, endS, endT, rowsOf, callP, thinL, unfr, unfr.unfrL, PV.noMem, PV.noMem.noMemL, optI, mapO, norm, trimT, trimB, forget, hasN, blksLt, List.set, softChk, softGo, softRd, effTg, rdP, h14, v1, v2, t1, t2, t3, t4]
theorem law4 (ps : List PV) (h : ArgL Tryd.prog 12 [23, 23] ps) : evE Dg 4 ps = some (.bool true) := by
  obtain ⟨p, q, rfl, h1, h2⟩ := argL2 h
  obtain ⟨a, rfl, ha⟩ := in23 h1
  obtain ⟨b, rfl, hb⟩ := in23 h2
  exact f4 a b ha hb
end Go.Proofs.YtddglikicokpeaaDoor
