/- event: the reference's Text (written by mkEtO.py). -/
-- LATT
import Derived.Test.YtidkdiooempkpaaDoorEtN
namespace Go.Proofs.YtidkdiooempkpaaDoor
open Go Go.RowKit Go.Lib
attribute [local simp] evCode evOps evOne evOp evPur evEff evPur.chunks fillP AOp.isEff AO.ev putP PV.cells PV.leaf getB getM mapE iterE keyC mapRows mfind eq1 eqL scal binP unP minP maxP foldP PV.lt PV.lt.ltL endP expoAll expoG expo expo.expoL frIds frIds.frIdsL nodupN kill cls clsFuel resO RV.get loadP evC_p evC_s endS endT rowsOf callP thinL unfr unfr.unfrL PV.noMem PV.noMem.noMemL optI mapO norm trimT trimB forget hasN blksLt List.set softChk softGo softRd effTg tgOf chgN sameB PV.same PV.same.sameL PV.same.sameLL rdP
set_option linter.unusedVariables false
set_option linter.unusedSimpArgs false
set_option maxHeartbeats 4000000
set_option maxRecDepth 100000

theorem f14_no (e : Ev) (h : ¬ errV e = 0) : evE Dg 14 [eE e] = some (.str []) := by
  have h11 := f12 e
  obtain ⟨v, hv⟩ : ∃ v, errV e = v := ⟨_, rfl⟩
  rw [hv] at h h11
  rw [eE'] at h11 ⊢
  refine evE_intro 1 D14 rfl ?_
  unfold c14
  simp [h11, h]
theorem f14_0 (e : Ev) (hv : errV e = 0) (hA : kA e.k = true) (hB : kB e.k = false) (hC : kC e.k = false) (hD : kD e.k = false) (hu : uM (kC e.k) e.k e.n = false) (k1 : ¬ e.k < 1) (k2 : ¬ 12 < e.k)
    (a0 : -9223372036854775808 ≤ e.at_ ∧ e.at_ ≤ 9223372036854775807) (n0 : -9223372036854775808 ≤ e.n ∧ e.n ≤ 9223372036854775807) (m0 : -9223372036854775808 ≤ e.m ∧ e.m ≤ 9223372036854775807)
    (hs : e.st.length ≤ 1000000) (hsj : (joinS [59] e.st).length ≤ 1000000) (hj : (joinS [32] (wdE e)).length ≤ 1000000) : evE Dg 14 [eE e] = some (.str (joinS [32] (wdE e))) := by
  have h11 := f12 e
  have h25 := f25 e.k
  have h33 := f33 e.at_ a0
  have h34 := f34 e.k k1 k2
  have hn := f33 e.n n0
  have hm := f33 e.m m0
  have tl := tR_len e.st
  have hs35 := f35 false e.st [59] hs hsj
  have ew : wdE e = [itoa e.at_, kW e.k, e.name] := by unfold wdE; rw [hu, hA, hB, hD]; rfl
  rw [ew] at hj ⊢
  have h35 := f35 false [itoa e.at_, kW e.k, e.name] [32] (by simp) hj
  rw [hA, hB, hC, hD] at h25
  rw [hv] at h11
  rw [eE'] at h11 ⊢
  have etr : tR [itoa e.at_, kW e.k, e.name] = [[.str (itoa e.at_)], [.str (kW e.k)], [.str (e.name)]] := rfl
  rw [etr] at h35
  refine evE_intro 1 D14 rfl ?_
  unfold c14
  simp [h11, h25, h33, h34, h35]
theorem f14_1 (e : Ev) (hv : errV e = 0) (hA : kA e.k = false) (hB : kB e.k = false) (hC : kC e.k = false) (hD : kD e.k = false) (hu : uM (kC e.k) e.k e.n = false) (k1 : ¬ e.k < 1) (k2 : ¬ 12 < e.k)
    (a0 : -9223372036854775808 ≤ e.at_ ∧ e.at_ ≤ 9223372036854775807) (n0 : -9223372036854775808 ≤ e.n ∧ e.n ≤ 9223372036854775807) (m0 : -9223372036854775808 ≤ e.m ∧ e.m ≤ 9223372036854775807)
    (hs : e.st.length ≤ 1000000) (hsj : (joinS [59] e.st).length ≤ 1000000) (hj : (joinS [32] (wdE e)).length ≤ 1000000) : evE Dg 14 [eE e] = some (.str (joinS [32] (wdE e))) := by
  have h11 := f12 e
  have h25 := f25 e.k
  have h33 := f33 e.at_ a0
  have h34 := f34 e.k k1 k2
  have hn := f33 e.n n0
  have hm := f33 e.m m0
  have tl := tR_len e.st
  have hs35 := f35 false e.st [59] hs hsj
  have ew : wdE e = [itoa e.at_, kW e.k] := by unfold wdE; rw [hu, hA, hB, hD]; rfl
  rw [ew] at hj ⊢
  have h35 := f35 false [itoa e.at_, kW e.k] [32] (by simp) hj
  rw [hA, hB, hC, hD] at h25
  rw [hv] at h11
  rw [eE'] at h11 ⊢
  have etr : tR [itoa e.at_, kW e.k] = [[.str (itoa e.at_)], [.str (kW e.k)]] := rfl
  rw [etr] at h35
  refine evE_intro 1 D14 rfl ?_
  unfold c14
  simp [h11, h25, h33, h34, h35]
theorem f14_2 (e : Ev) (hv : errV e = 0) (hA : kA e.k = true) (hB : kB e.k = true) (hC : kC e.k = false) (hD : kD e.k = false) (hu : uM (kC e.k) e.k e.n = false) (k1 : ¬ e.k < 1) (k2 : ¬ 12 < e.k)
    (a0 : -9223372036854775808 ≤ e.at_ ∧ e.at_ ≤ 9223372036854775807) (n0 : -9223372036854775808 ≤ e.n ∧ e.n ≤ 9223372036854775807) (m0 : -9223372036854775808 ≤ e.m ∧ e.m ≤ 9223372036854775807)
    (hs : e.st.length ≤ 1000000) (hsj : (joinS [59] e.st).length ≤ 1000000) (hj : (joinS [32] (wdE e)).length ≤ 1000000) : evE Dg 14 [eE e] = some (.str (joinS [32] (wdE e))) := by
  have h11 := f12 e
  have h25 := f25 e.k
  have h33 := f33 e.at_ a0
  have h34 := f34 e.k k1 k2
  have hn := f33 e.n n0
  have hm := f33 e.m m0
  have tl := tR_len e.st
  have hs35 := f35 false e.st [59] hs hsj
  have ew : wdE e = [itoa e.at_, kW e.k, e.name, itoa e.n] := by unfold wdE; rw [hu, hA, hB, hD]; rfl
  rw [ew] at hj ⊢
  have h35 := f35 false [itoa e.at_, kW e.k, e.name, itoa e.n] [32] (by simp) hj
  rw [hA, hB, hC, hD] at h25
  rw [hv] at h11
  rw [eE'] at h11 ⊢
  have etr : tR [itoa e.at_, kW e.k, e.name, itoa e.n] = [[.str (itoa e.at_)], [.str (kW e.k)], [.str (e.name)], [.str (itoa e.n)]] := rfl
  rw [etr] at h35
  refine evE_intro 1 D14 rfl ?_
  unfold c14
  simp [h11, h25, h33, h34, h35, hn]
theorem f14_3 (e : Ev) (hv : errV e = 0) (hA : kA e.k = false) (hB : kB e.k = true) (hC : kC e.k = false) (hD : kD e.k = true) (hu : uM (kC e.k) e.k e.n = false) (hE : ¬ e.st = []) (k1 : ¬ e.k < 1) (k2 : ¬ 12 < e.k)
    (a0 : -9223372036854775808 ≤ e.at_ ∧ e.at_ ≤ 9223372036854775807) (n0 : -9223372036854775808 ≤ e.n ∧ e.n ≤ 9223372036854775807) (m0 : -9223372036854775808 ≤ e.m ∧ e.m ≤ 9223372036854775807)
    (hs : e.st.length ≤ 1000000) (hsj : (joinS [59] e.st).length ≤ 1000000) (hj : (joinS [32] (wdE e)).length ≤ 1000000) : evE Dg 14 [eE e] = some (.str (joinS [32] (wdE e))) := by
  have h11 := f12 e
  have h25 := f25 e.k
  have h33 := f33 e.at_ a0
  have h34 := f34 e.k k1 k2
  have hn := f33 e.n n0
  have hm := f33 e.m m0
  have tl := tR_len e.st
  have hs35 := f35 false e.st [59] hs hsj
  have hL : ¬ e.st.length = 0 := fun h => hE (List.eq_nil_of_length_eq_zero h)
  have hL2 : ¬ (e.st.length : Int) = 0 := by omega
  have hst : stT e.st = joinS [59] e.st := by unfold stT; rw [if_neg hE]
  have ew : wdE e = [itoa e.at_, kW e.k, itoa e.n, joinS [59] e.st] := by unfold wdE; rw [hu, hA, hB, hD, hst]; rfl
  rw [ew] at hj ⊢
  have h35 := f35 false [itoa e.at_, kW e.k, itoa e.n, joinS [59] e.st] [32] (by simp) hj
  rw [hA, hB, hC, hD] at h25
  rw [hv] at h11
  rw [eE'] at h11 ⊢
  have etr : tR [itoa e.at_, kW e.k, itoa e.n, joinS [59] e.st] = [[.str (itoa e.at_)], [.str (kW e.k)], [.str (itoa e.n)], [.str (joinS [59] e.st)]] := rfl
  rw [etr] at h35
  refine evE_intro 1 D14 rfl ?_
  unfold c14
  simp [h11, h25, h33, h34, h35, hn, hL, hL2, tl, hs35]
theorem f14_4 (e : Ev) (hv : errV e = 0) (hA : kA e.k = false) (hB : kB e.k = true) (hC : kC e.k = false) (hD : kD e.k = true) (hu : uM (kC e.k) e.k e.n = false) (hE : e.st = []) (k1 : ¬ e.k < 1) (k2 : ¬ 12 < e.k)
    (a0 : -9223372036854775808 ≤ e.at_ ∧ e.at_ ≤ 9223372036854775807) (n0 : -9223372036854775808 ≤ e.n ∧ e.n ≤ 9223372036854775807) (m0 : -9223372036854775808 ≤ e.m ∧ e.m ≤ 9223372036854775807)
    (hs : e.st.length ≤ 1000000) (hsj : (joinS [59] e.st).length ≤ 1000000) (hj : (joinS [32] (wdE e)).length ≤ 1000000) : evE Dg 14 [eE e] = some (.str (joinS [32] (wdE e))) := by
  have h11 := f12 e
  have h25 := f25 e.k
  have h33 := f33 e.at_ a0
  have h34 := f34 e.k k1 k2
  have hn := f33 e.n n0
  have hm := f33 e.m m0
  have tl := tR_len e.st
  have hs35 := f35 false e.st [59] hs hsj
  have hL : e.st.length = 0 := by rw [hE]; rfl
  have hL2 : (e.st.length : Int) = 0 := by omega
  have hst : stT e.st = [59] := by unfold stT; rw [if_pos hE]
  have ew : wdE e = [itoa e.at_, kW e.k, itoa e.n, [59]] := by unfold wdE; rw [hu, hA, hB, hD, hst]; rfl
  rw [ew] at hj ⊢
  have h35 := f35 false [itoa e.at_, kW e.k, itoa e.n, [59]] [32] (by simp) hj
  rw [hA, hB, hC, hD] at h25
  rw [hv] at h11
  rw [eE'] at h11 ⊢
  have etr : tR [itoa e.at_, kW e.k, itoa e.n, [59]] = [[.str (itoa e.at_)], [.str (kW e.k)], [.str (itoa e.n)], [.str ([59])]] := rfl
  rw [etr] at h35
  refine evE_intro 1 D14 rfl ?_
  unfold c14
  simp [h11, h25, h33, h34, h35, hn, hL, hL2, tl]
theorem f14_5 (e : Ev) (hv : errV e = 0) (hA : kA e.k = false) (hB : kB e.k = true) (hC : kC e.k = false) (hD : kD e.k = false) (hu : uM (kC e.k) e.k e.n = false) (k1 : ¬ e.k < 1) (k2 : ¬ 12 < e.k)
    (a0 : -9223372036854775808 ≤ e.at_ ∧ e.at_ ≤ 9223372036854775807) (n0 : -9223372036854775808 ≤ e.n ∧ e.n ≤ 9223372036854775807) (m0 : -9223372036854775808 ≤ e.m ∧ e.m ≤ 9223372036854775807)
    (hs : e.st.length ≤ 1000000) (hsj : (joinS [59] e.st).length ≤ 1000000) (hj : (joinS [32] (wdE e)).length ≤ 1000000) : evE Dg 14 [eE e] = some (.str (joinS [32] (wdE e))) := by
  have h11 := f12 e
  have h25 := f25 e.k
  have h33 := f33 e.at_ a0
  have h34 := f34 e.k k1 k2
  have hn := f33 e.n n0
  have hm := f33 e.m m0
  have tl := tR_len e.st
  have hs35 := f35 false e.st [59] hs hsj
  have ew : wdE e = [itoa e.at_, kW e.k, itoa e.n] := by unfold wdE; rw [hu, hA, hB, hD]; rfl
  rw [ew] at hj ⊢
  have h35 := f35 false [itoa e.at_, kW e.k, itoa e.n] [32] (by simp) hj
  rw [hA, hB, hC, hD] at h25
  rw [hv] at h11
  rw [eE'] at h11 ⊢
  have etr : tR [itoa e.at_, kW e.k, itoa e.n] = [[.str (itoa e.at_)], [.str (kW e.k)], [.str (itoa e.n)]] := rfl
  rw [etr] at h35
  refine evE_intro 1 D14 rfl ?_
  unfold c14
  simp [h11, h25, h33, h34, h35, hn]
theorem f14_6 (e : Ev) (hv : errV e = 0) (hA : kA e.k = false) (hB : kB e.k = true) (hC : kC e.k = true) (hD : kD e.k = false) (hu : uM (kC e.k) e.k e.n = false) (h9 : e.k = 9) (h2 : ¬ e.n = 2) (k1 : ¬ e.k < 1) (k2 : ¬ 12 < e.k)
    (a0 : -9223372036854775808 ≤ e.at_ ∧ e.at_ ≤ 9223372036854775807) (n0 : -9223372036854775808 ≤ e.n ∧ e.n ≤ 9223372036854775807) (m0 : -9223372036854775808 ≤ e.m ∧ e.m ≤ 9223372036854775807)
    (hs : e.st.length ≤ 1000000) (hsj : (joinS [59] e.st).length ≤ 1000000) (hj : (joinS [32] (wdE e)).length ≤ 1000000) : evE Dg 14 [eE e] = some (.str (joinS [32] (wdE e))) := by
  have h11 := f12 e
  have h25 := f25 e.k
  have h33 := f33 e.at_ a0
  have h34 := f34 e.k k1 k2
  have hn := f33 e.n n0
  have hm := f33 e.m m0
  have tl := tR_len e.st
  have hs35 := f35 false e.st [59] hs hsj
  have ew : wdE e = [itoa e.at_, kW e.k, itoa e.n] := by unfold wdE; rw [hu, hA, hB, hD]; rfl
  rw [ew] at hj ⊢
  have h35 := f35 false [itoa e.at_, kW e.k, itoa e.n] [32] (by simp) hj
  rw [hA, hB, hC, hD] at h25
  rw [hv] at h11
  rw [eE'] at h11 ⊢
  have etr : tR [itoa e.at_, kW e.k, itoa e.n] = [[.str (itoa e.at_)], [.str (kW e.k)], [.str (itoa e.n)]] := rfl
  rw [etr] at h35
  refine evE_intro 1 D14 rfl ?_
  unfold c14
  simp [h11, h25, h33, h34, h35, hn, eq_true h9, eq_false h2]
theorem f14_7 (e : Ev) (hv : errV e = 0) (hA : kA e.k = false) (hB : kB e.k = true) (hC : kC e.k = true) (hD : kD e.k = false) (hu : uM (kC e.k) e.k e.n = true) (h9 : e.k = 9) (h2 : e.n = 2) (k1 : ¬ e.k < 1) (k2 : ¬ 12 < e.k)
    (a0 : -9223372036854775808 ≤ e.at_ ∧ e.at_ ≤ 9223372036854775807) (n0 : -9223372036854775808 ≤ e.n ∧ e.n ≤ 9223372036854775807) (m0 : -9223372036854775808 ≤ e.m ∧ e.m ≤ 9223372036854775807)
    (hs : e.st.length ≤ 1000000) (hsj : (joinS [59] e.st).length ≤ 1000000) (hj : (joinS [32] (wdE e)).length ≤ 1000000) : evE Dg 14 [eE e] = some (.str (joinS [32] (wdE e))) := by
  have h11 := f12 e
  have h25 := f25 e.k
  have h33 := f33 e.at_ a0
  have h34 := f34 e.k k1 k2
  have hn := f33 e.n n0
  have hm := f33 e.m m0
  have tl := tR_len e.st
  have hs35 := f35 false e.st [59] hs hsj
  have ew : wdE e = [itoa e.at_, kW e.k, itoa e.n, itoa e.m] := by unfold wdE; rw [hu, hA, hB, hD]; rfl
  rw [ew] at hj ⊢
  have h35 := f35 false [itoa e.at_, kW e.k, itoa e.n, itoa e.m] [32] (by simp) hj
  rw [hA, hB, hC, hD] at h25
  rw [hv] at h11
  rw [eE'] at h11 ⊢
  have etr : tR [itoa e.at_, kW e.k, itoa e.n, itoa e.m] = [[.str (itoa e.at_)], [.str (kW e.k)], [.str (itoa e.n)], [.str (itoa e.m)]] := rfl
  rw [etr] at h35
  refine evE_intro 1 D14 rfl ?_
  unfold c14
  simp [h11, h25, h33, h34, h35, hn, hm, eq_true h9, eq_true h2]
theorem f14_8 (e : Ev) (hv : errV e = 0) (hA : kA e.k = false) (hB : kB e.k = true) (hC : kC e.k = true) (hD : kD e.k = true) (hu : uM (kC e.k) e.k e.n = true) (hE : ¬ e.st = []) (h9 : ¬ e.k = 9) (k1 : ¬ e.k < 1) (k2 : ¬ 12 < e.k)
    (a0 : -9223372036854775808 ≤ e.at_ ∧ e.at_ ≤ 9223372036854775807) (n0 : -9223372036854775808 ≤ e.n ∧ e.n ≤ 9223372036854775807) (m0 : -9223372036854775808 ≤ e.m ∧ e.m ≤ 9223372036854775807)
    (hs : e.st.length ≤ 1000000) (hsj : (joinS [59] e.st).length ≤ 1000000) (hj : (joinS [32] (wdE e)).length ≤ 1000000) : evE Dg 14 [eE e] = some (.str (joinS [32] (wdE e))) := by
  have h11 := f12 e
  have h25 := f25 e.k
  have h33 := f33 e.at_ a0
  have h34 := f34 e.k k1 k2
  have hn := f33 e.n n0
  have hm := f33 e.m m0
  have tl := tR_len e.st
  have hs35 := f35 false e.st [59] hs hsj
  have hL : ¬ e.st.length = 0 := fun h => hE (List.eq_nil_of_length_eq_zero h)
  have hL2 : ¬ (e.st.length : Int) = 0 := by omega
  have hst : stT e.st = joinS [59] e.st := by unfold stT; rw [if_neg hE]
  have ew : wdE e = [itoa e.at_, kW e.k, itoa e.n, itoa e.m, joinS [59] e.st] := by unfold wdE; rw [hu, hA, hB, hD, hst]; rfl
  rw [ew] at hj ⊢
  have h35 := f35 false [itoa e.at_, kW e.k, itoa e.n, itoa e.m, joinS [59] e.st] [32] (by simp) hj
  rw [hA, hB, hC, hD] at h25
  rw [hv] at h11
  rw [eE'] at h11 ⊢
  have etr : tR [itoa e.at_, kW e.k, itoa e.n, itoa e.m, joinS [59] e.st] = [[.str (itoa e.at_)], [.str (kW e.k)], [.str (itoa e.n)], [.str (itoa e.m)], [.str (joinS [59] e.st)]] := rfl
  rw [etr] at h35
  refine evE_intro 1 D14 rfl ?_
  unfold c14
  simp [h11, h25, h33, h34, h35, hn, hm, h9, hL, hL2, tl, hs35]
theorem f14_9 (e : Ev) (hv : errV e = 0) (hA : kA e.k = false) (hB : kB e.k = true) (hC : kC e.k = true) (hD : kD e.k = true) (hu : uM (kC e.k) e.k e.n = true) (hE : e.st = []) (h9 : ¬ e.k = 9) (k1 : ¬ e.k < 1) (k2 : ¬ 12 < e.k)
    (a0 : -9223372036854775808 ≤ e.at_ ∧ e.at_ ≤ 9223372036854775807) (n0 : -9223372036854775808 ≤ e.n ∧ e.n ≤ 9223372036854775807) (m0 : -9223372036854775808 ≤ e.m ∧ e.m ≤ 9223372036854775807)
    (hs : e.st.length ≤ 1000000) (hsj : (joinS [59] e.st).length ≤ 1000000) (hj : (joinS [32] (wdE e)).length ≤ 1000000) : evE Dg 14 [eE e] = some (.str (joinS [32] (wdE e))) := by
  have h11 := f12 e
  have h25 := f25 e.k
  have h33 := f33 e.at_ a0
  have h34 := f34 e.k k1 k2
  have hn := f33 e.n n0
  have hm := f33 e.m m0
  have tl := tR_len e.st
  have hs35 := f35 false e.st [59] hs hsj
  have hL : e.st.length = 0 := by rw [hE]; rfl
  have hL2 : (e.st.length : Int) = 0 := by omega
  have hst : stT e.st = [59] := by unfold stT; rw [if_pos hE]
  have ew : wdE e = [itoa e.at_, kW e.k, itoa e.n, itoa e.m, [59]] := by unfold wdE; rw [hu, hA, hB, hD, hst]; rfl
  rw [ew] at hj ⊢
  have h35 := f35 false [itoa e.at_, kW e.k, itoa e.n, itoa e.m, [59]] [32] (by simp) hj
  rw [hA, hB, hC, hD] at h25
  rw [hv] at h11
  rw [eE'] at h11 ⊢
  have etr : tR [itoa e.at_, kW e.k, itoa e.n, itoa e.m, [59]] = [[.str (itoa e.at_)], [.str (kW e.k)], [.str (itoa e.n)], [.str (itoa e.m)], [.str ([59])]] := rfl
  rw [etr] at h35
  refine evE_intro 1 D14 rfl ?_
  unfold c14
  simp [h11, h25, h33, h34, h35, hn, hm, h9, hL, hL2, tl]
theorem f14a (e : Ev) : evE Dg 14 [eE e] = some (.str (txE e)) := by
  by_cases hv : errV e = 0
  · have v := val_of hv
    have := v.at0
    have := v.at1
    have := v.nb
    have := v.mb
    have k1 := v.k1
    have k2 := v.k2
    obtain ⟨f1, f2⟩ := v.frames
    obtain ⟨g1, g2⟩ := stT_len f2 f1
    have a0 : -9223372036854775808 ≤ e.at_ ∧ e.at_ ≤ 9223372036854775807 := by omega
    have n0 : -9223372036854775808 ≤ e.n ∧ e.n ≤ 9223372036854775807 := by omega
    have m0 : -9223372036854775808 ≤ e.m ∧ e.m ≤ 9223372036854775807 := by omega
    have hs : e.st.length ≤ 1000000 := by omega
    have hsj : (joinS [59] e.st).length ≤ 1000000 := by omega
    have hj : (joinS [32] (wdE e)).length ≤ 1000000 := by
      have h1 := join_le [32] (by simp) 1312 (wdE e) (fun s hs => (v.words s hs).2)
      have h2 := wd_len e
      have : (wdE e).length * (1312 + 1) ≤ 6 * (1312 + 1) := Nat.mul_le_mul_right _ h2
      omega
    have et : txE e = joinS [32] (wdE e) := by unfold txE; rw [if_pos hv]
    rw [et]
    rcases combo k1 k2 with ⟨a, b, c, d⟩ | ⟨a, b, c, d⟩ | ⟨a, b, c, d⟩ | ⟨a, b, c, d⟩ | ⟨a, b, c, d⟩ | ⟨a, b, c, d⟩ | ⟨a, b, c, d⟩
    · exact f14_0 e hv a b c d (by rw [c]; rfl) k1 k2 a0 n0 m0 hs hsj hj
    · exact f14_1 e hv a b c d (by rw [c]; rfl) k1 k2 a0 n0 m0 hs hsj hj
    · exact f14_2 e hv a b c d (by rw [c]; rfl) k1 k2 a0 n0 m0 hs hsj hj
    · by_cases hE : e.st = []
      · exact f14_4 e hv a b c d (by rw [c]; rfl) hE k1 k2 a0 n0 m0 hs hsj hj
      · exact f14_3 e hv a b c d (by rw [c]; rfl) hE k1 k2 a0 n0 m0 hs hsj hj
    · exact f14_5 e hv a b c d (by rw [c]; rfl) k1 k2 a0 n0 m0 hs hsj hj
    · have h9 : e.k = 9 := by
        unfold kC kD at *
        simp only [Bool.or_eq_true, decide_eq_true_eq, Bool.or_eq_false_iff, decide_eq_false_iff_not] at c d
        omega
      by_cases h2 : e.n = 2
      · exact f14_7 e hv a b c d (by rw [c]; unfold uM; rw [decide_eq_true h2]; simp) h9 h2 k1 k2 a0 n0 m0 hs hsj hj
      · exact f14_6 e hv a b c d (by rw [c]; unfold uM; rw [decide_eq_false h2, decide_eq_true h9]; rfl) h9 h2 k1 k2 a0 n0 m0 hs hsj hj
    · have h9 : ¬ e.k = 9 := fun h => by rw [h] at d; exact absurd d (by decide)
      have hu : uM (kC e.k) e.k e.n = true := by rw [c]; unfold uM; rw [decide_eq_false h9]; rfl
      by_cases hE : e.st = []
      · exact f14_9 e hv a b c d hu hE h9 k1 k2 a0 n0 m0 hs hsj hj
      · exact f14_8 e hv a b c d hu hE h9 k1 k2 a0 n0 m0 hs hsj hj
  · unfold txE
    rw [if_neg hv]
    exact f14_no e hv
end Go.Proofs.YtidkdiooempkpaaDoor
