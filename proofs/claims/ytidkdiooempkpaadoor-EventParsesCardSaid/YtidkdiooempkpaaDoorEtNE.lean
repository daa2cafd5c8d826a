/- event: Text of both where the stack is nil (written by mkEtND.py). -/
-- LATT
import Derived.Test.YtidkdiooempkpaaDoorEtND
namespace Go.Proofs.YtidkdiooempkpaaDoor
open Go Go.RowKit Go.Lib
attribute [local simp] evCode evOps evOne evOp evPur evEff evPur.chunks fillP AOp.isEff AO.ev putP PV.cells PV.leaf getB getM mapE iterE keyC mapRows mfind eq1 eqL scal binP unP minP maxP foldP PV.lt PV.lt.ltL endP expoAll expoG expo expo.expoL frIds frIds.frIdsL nodupN kill cls clsFuel resO RV.get loadP evC_p evC_s endS endT rowsOf callP thinL unfr unfr.unfrL PV.noMem PV.noMem.noMemL optI mapO norm trimT trimB forget hasN blksLt List.set softChk softGo softRd effTg tgOf chgN sameB PV.same PV.same.sameL PV.same.sameLL rdP
set_option linter.unusedVariables false
set_option linter.unusedSimpArgs false
set_option maxHeartbeats 4000000
set_option maxRecDepth 100000

theorem f13N_no (e : Ev) (hst : e.st = []) (h : ¬ errV e = 0) : evE Dg 13 [eN e] = some (.str []) := by
  have h11 := f11N e hst
  obtain ⟨v, hv⟩ : ∃ v, errV e = v := ⟨_, rfl⟩
  rw [hv] at h h11
  unfold eN at h11 ⊢
  refine evE_intro 1 D13 rfl ?_
  unfold c13
  simp [h11, h]
theorem f13N_0 (e : Ev) (hst : e.st = []) (hv : errV e = 0) (hA : kA e.k = true) (hB : kB e.k = false) (hC : kC e.k = false) (hD : kD e.k = false) (hu : uM (kC e.k) e.k e.n = false) (k1 : ¬ e.k < 1) (k2 : ¬ 12 < e.k)
    (a0 : -9223372036854775808 ≤ e.at_ ∧ e.at_ ≤ 9223372036854775807) (n0 : -9223372036854775808 ≤ e.n ∧ e.n ≤ 9223372036854775807) (m0 : -9223372036854775808 ≤ e.m ∧ e.m ≤ 9223372036854775807)
    (hjj : (joinS [32] (wdE e)).length ≤ 1000000) : evE Dg 13 [eN e] = some (.str (joinS [32] (wdE e))) := by
  have h11 := f11N e hst
  have ha := f29 e.at_ a0
  have hn := f29 e.n n0
  have hm := f29 e.m m0
  have hs : stT e.st = [59] := by rw [hst]; rfl
  have ew : wdE e = [itoa e.at_, kW e.k, e.name] := by unfold wdE; rw [hu, hA, hB, hD, hs]; rfl
  rw [ew] at hjj ⊢
  have hj := f32 false [itoa e.at_, kW e.k, e.name] [32] (by simp) hjj
  rw [hv] at h11
  have h21 := f21 e.k k1 k2
  have h30 := f30N (kW e.k) (kA e.k) (kB e.k) (kC e.k) (kD e.k) (kLo e.k) (kHi e.k) e
  rw [hu] at h30
  rw [hA, hB, hC, hD] at h21 h30
  unfold eN at h11 h30 ⊢
  have etr : tR [itoa e.at_, kW e.k, e.name] = [[.str (itoa e.at_)], [.str (kW e.k)], [.str (e.name)]] := rfl
  rw [etr] at hj
  refine evE_intro 1 D13 rfl ?_
  unfold c13
  simp [h11, ha, hj, h21, h30]
theorem f13N_1 (e : Ev) (hst : e.st = []) (hv : errV e = 0) (hA : kA e.k = false) (hB : kB e.k = false) (hC : kC e.k = false) (hD : kD e.k = false) (hu : uM (kC e.k) e.k e.n = false) (k1 : ¬ e.k < 1) (k2 : ¬ 12 < e.k)
    (a0 : -9223372036854775808 ≤ e.at_ ∧ e.at_ ≤ 9223372036854775807) (n0 : -9223372036854775808 ≤ e.n ∧ e.n ≤ 9223372036854775807) (m0 : -9223372036854775808 ≤ e.m ∧ e.m ≤ 9223372036854775807)
    (hjj : (joinS [32] (wdE e)).length ≤ 1000000) : evE Dg 13 [eN e] = some (.str (joinS [32] (wdE e))) := by
  have h11 := f11N e hst
  have ha := f29 e.at_ a0
  have hn := f29 e.n n0
  have hm := f29 e.m m0
  have hs : stT e.st = [59] := by rw [hst]; rfl
  have ew : wdE e = [itoa e.at_, kW e.k] := by unfold wdE; rw [hu, hA, hB, hD, hs]; rfl
  rw [ew] at hjj ⊢
  have hj := f32 false [itoa e.at_, kW e.k] [32] (by simp) hjj
  rw [hv] at h11
  have h21 := f21 e.k k1 k2
  have h30 := f30N (kW e.k) (kA e.k) (kB e.k) (kC e.k) (kD e.k) (kLo e.k) (kHi e.k) e
  rw [hu] at h30
  rw [hA, hB, hC, hD] at h21 h30
  unfold eN at h11 h30 ⊢
  have etr : tR [itoa e.at_, kW e.k] = [[.str (itoa e.at_)], [.str (kW e.k)]] := rfl
  rw [etr] at hj
  refine evE_intro 1 D13 rfl ?_
  unfold c13
  simp [h11, ha, hj, h21, h30]
theorem f13N_2 (e : Ev) (hst : e.st = []) (hv : errV e = 0) (hA : kA e.k = true) (hB : kB e.k = true) (hC : kC e.k = false) (hD : kD e.k = false) (hu : uM (kC e.k) e.k e.n = false) (k1 : ¬ e.k < 1) (k2 : ¬ 12 < e.k)
    (a0 : -9223372036854775808 ≤ e.at_ ∧ e.at_ ≤ 9223372036854775807) (n0 : -9223372036854775808 ≤ e.n ∧ e.n ≤ 9223372036854775807) (m0 : -9223372036854775808 ≤ e.m ∧ e.m ≤ 9223372036854775807)
    (hjj : (joinS [32] (wdE e)).length ≤ 1000000) : evE Dg 13 [eN e] = some (.str (joinS [32] (wdE e))) := by
  have h11 := f11N e hst
  have ha := f29 e.at_ a0
  have hn := f29 e.n n0
  have hm := f29 e.m m0
  have hs : stT e.st = [59] := by rw [hst]; rfl
  have ew : wdE e = [itoa e.at_, kW e.k, e.name, itoa e.n] := by unfold wdE; rw [hu, hA, hB, hD, hs]; rfl
  rw [ew] at hjj ⊢
  have hj := f32 false [itoa e.at_, kW e.k, e.name, itoa e.n] [32] (by simp) hjj
  rw [hv] at h11
  have h21 := f21 e.k k1 k2
  have h30 := f30N (kW e.k) (kA e.k) (kB e.k) (kC e.k) (kD e.k) (kLo e.k) (kHi e.k) e
  rw [hu] at h30
  rw [hA, hB, hC, hD] at h21 h30
  unfold eN at h11 h30 ⊢
  have etr : tR [itoa e.at_, kW e.k, e.name, itoa e.n] = [[.str (itoa e.at_)], [.str (kW e.k)], [.str (e.name)], [.str (itoa e.n)]] := rfl
  rw [etr] at hj
  refine evE_intro 1 D13 rfl ?_
  unfold c13
  simp [h11, ha, hj, hn, h21, h30]
theorem f13N_3 (e : Ev) (hst : e.st = []) (hv : errV e = 0) (hA : kA e.k = false) (hB : kB e.k = true) (hC : kC e.k = false) (hD : kD e.k = true) (hu : uM (kC e.k) e.k e.n = false) (k1 : ¬ e.k < 1) (k2 : ¬ 12 < e.k)
    (a0 : -9223372036854775808 ≤ e.at_ ∧ e.at_ ≤ 9223372036854775807) (n0 : -9223372036854775808 ≤ e.n ∧ e.n ≤ 9223372036854775807) (m0 : -9223372036854775808 ≤ e.m ∧ e.m ≤ 9223372036854775807)
    (hjj : (joinS [32] (wdE e)).length ≤ 1000000) : evE Dg 13 [eN e] = some (.str (joinS [32] (wdE e))) := by
  have h11 := f11N e hst
  have ha := f29 e.at_ a0
  have hn := f29 e.n n0
  have hm := f29 e.m m0
  have hs : stT e.st = [59] := by rw [hst]; rfl
  have ew : wdE e = [itoa e.at_, kW e.k, itoa e.n, [59]] := by unfold wdE; rw [hu, hA, hB, hD, hs]; rfl
  rw [ew] at hjj ⊢
  have hj := f32 false [itoa e.at_, kW e.k, itoa e.n, [59]] [32] (by simp) hjj
  rw [hv] at h11
  have h21 := f21 e.k k1 k2
  have h30 := f30N (kW e.k) (kA e.k) (kB e.k) (kC e.k) (kD e.k) (kLo e.k) (kHi e.k) e
  rw [hu] at h30
  rw [hA, hB, hC, hD] at h21 h30
  unfold eN at h11 h30 ⊢
  have etr : tR [itoa e.at_, kW e.k, itoa e.n, [59]] = [[.str (itoa e.at_)], [.str (kW e.k)], [.str (itoa e.n)], [.str ([59])]] := rfl
  rw [etr] at hj
  refine evE_intro 1 D13 rfl ?_
  unfold c13
  simp [h11, ha, hj, hn, h21, h30, f31N]
theorem f13N_4 (e : Ev) (hst : e.st = []) (hv : errV e = 0) (hA : kA e.k = false) (hB : kB e.k = true) (hC : kC e.k = false) (hD : kD e.k = false) (hu : uM (kC e.k) e.k e.n = false) (k1 : ¬ e.k < 1) (k2 : ¬ 12 < e.k)
    (a0 : -9223372036854775808 ≤ e.at_ ∧ e.at_ ≤ 9223372036854775807) (n0 : -9223372036854775808 ≤ e.n ∧ e.n ≤ 9223372036854775807) (m0 : -9223372036854775808 ≤ e.m ∧ e.m ≤ 9223372036854775807)
    (hjj : (joinS [32] (wdE e)).length ≤ 1000000) : evE Dg 13 [eN e] = some (.str (joinS [32] (wdE e))) := by
  have h11 := f11N e hst
  have ha := f29 e.at_ a0
  have hn := f29 e.n n0
  have hm := f29 e.m m0
  have hs : stT e.st = [59] := by rw [hst]; rfl
  have ew : wdE e = [itoa e.at_, kW e.k, itoa e.n] := by unfold wdE; rw [hu, hA, hB, hD, hs]; rfl
  rw [ew] at hjj ⊢
  have hj := f32 false [itoa e.at_, kW e.k, itoa e.n] [32] (by simp) hjj
  rw [hv] at h11
  have h21 := f21 e.k k1 k2
  have h30 := f30N (kW e.k) (kA e.k) (kB e.k) (kC e.k) (kD e.k) (kLo e.k) (kHi e.k) e
  rw [hu] at h30
  rw [hA, hB, hC, hD] at h21 h30
  unfold eN at h11 h30 ⊢
  have etr : tR [itoa e.at_, kW e.k, itoa e.n] = [[.str (itoa e.at_)], [.str (kW e.k)], [.str (itoa e.n)]] := rfl
  rw [etr] at hj
  refine evE_intro 1 D13 rfl ?_
  unfold c13
  simp [h11, ha, hj, hn, h21, h30]
theorem f13N_5 (e : Ev) (hst : e.st = []) (hv : errV e = 0) (hA : kA e.k = false) (hB : kB e.k = true) (hC : kC e.k = true) (hD : kD e.k = false) (hu : uM (kC e.k) e.k e.n = false) (k1 : ¬ e.k < 1) (k2 : ¬ 12 < e.k)
    (a0 : -9223372036854775808 ≤ e.at_ ∧ e.at_ ≤ 9223372036854775807) (n0 : -9223372036854775808 ≤ e.n ∧ e.n ≤ 9223372036854775807) (m0 : -9223372036854775808 ≤ e.m ∧ e.m ≤ 9223372036854775807)
    (hjj : (joinS [32] (wdE e)).length ≤ 1000000) : evE Dg 13 [eN e] = some (.str (joinS [32] (wdE e))) := by
  have h11 := f11N e hst
  have ha := f29 e.at_ a0
  have hn := f29 e.n n0
  have hm := f29 e.m m0
  have hs : stT e.st = [59] := by rw [hst]; rfl
  have ew : wdE e = [itoa e.at_, kW e.k, itoa e.n] := by unfold wdE; rw [hu, hA, hB, hD, hs]; rfl
  rw [ew] at hjj ⊢
  have hj := f32 false [itoa e.at_, kW e.k, itoa e.n] [32] (by simp) hjj
  rw [hv] at h11
  have h21 := f21 e.k k1 k2
  have h30 := f30N (kW e.k) (kA e.k) (kB e.k) (kC e.k) (kD e.k) (kLo e.k) (kHi e.k) e
  rw [hu] at h30
  rw [hA, hB, hC, hD] at h21 h30
  unfold eN at h11 h30 ⊢
  have etr : tR [itoa e.at_, kW e.k, itoa e.n] = [[.str (itoa e.at_)], [.str (kW e.k)], [.str (itoa e.n)]] := rfl
  rw [etr] at hj
  refine evE_intro 1 D13 rfl ?_
  unfold c13
  simp [h11, ha, hj, hn, h21, h30]
theorem f13N_6 (e : Ev) (hst : e.st = []) (hv : errV e = 0) (hA : kA e.k = false) (hB : kB e.k = true) (hC : kC e.k = true) (hD : kD e.k = false) (hu : uM (kC e.k) e.k e.n = true) (k1 : ¬ e.k < 1) (k2 : ¬ 12 < e.k)
    (a0 : -9223372036854775808 ≤ e.at_ ∧ e.at_ ≤ 9223372036854775807) (n0 : -9223372036854775808 ≤ e.n ∧ e.n ≤ 9223372036854775807) (m0 : -9223372036854775808 ≤ e.m ∧ e.m ≤ 9223372036854775807)
    (hjj : (joinS [32] (wdE e)).length ≤ 1000000) : evE Dg 13 [eN e] = some (.str (joinS [32] (wdE e))) := by
  have h11 := f11N e hst
  have ha := f29 e.at_ a0
  have hn := f29 e.n n0
  have hm := f29 e.m m0
  have hs : stT e.st = [59] := by rw [hst]; rfl
  have ew : wdE e = [itoa e.at_, kW e.k, itoa e.n, itoa e.m] := by unfold wdE; rw [hu, hA, hB, hD, hs]; rfl
  rw [ew] at hjj ⊢
  have hj := f32 false [itoa e.at_, kW e.k, itoa e.n, itoa e.m] [32] (by simp) hjj
  rw [hv] at h11
  have h21 := f21 e.k k1 k2
  have h30 := f30N (kW e.k) (kA e.k) (kB e.k) (kC e.k) (kD e.k) (kLo e.k) (kHi e.k) e
  rw [hu] at h30
  rw [hA, hB, hC, hD] at h21 h30
  unfold eN at h11 h30 ⊢
  have etr : tR [itoa e.at_, kW e.k, itoa e.n, itoa e.m] = [[.str (itoa e.at_)], [.str (kW e.k)], [.str (itoa e.n)], [.str (itoa e.m)]] := rfl
  rw [etr] at hj
  refine evE_intro 1 D13 rfl ?_
  unfold c13
  simp [h11, ha, hj, hn, hm, h21, h30]
theorem f13N_7 (e : Ev) (hst : e.st = []) (hv : errV e = 0) (hA : kA e.k = false) (hB : kB e.k = true) (hC : kC e.k = true) (hD : kD e.k = true) (hu : uM (kC e.k) e.k e.n = true) (k1 : ¬ e.k < 1) (k2 : ¬ 12 < e.k)
    (a0 : -9223372036854775808 ≤ e.at_ ∧ e.at_ ≤ 9223372036854775807) (n0 : -9223372036854775808 ≤ e.n ∧ e.n ≤ 9223372036854775807) (m0 : -9223372036854775808 ≤ e.m ∧ e.m ≤ 9223372036854775807)
    (hjj : (joinS [32] (wdE e)).length ≤ 1000000) : evE Dg 13 [eN e] = some (.str (joinS [32] (wdE e))) := by
  have h11 := f11N e hst
  have ha := f29 e.at_ a0
  have hn := f29 e.n n0
  have hm := f29 e.m m0
  have hs : stT e.st = [59] := by rw [hst]; rfl
  have ew : wdE e = [itoa e.at_, kW e.k, itoa e.n, itoa e.m, [59]] := by unfold wdE; rw [hu, hA, hB, hD, hs]; rfl
  rw [ew] at hjj ⊢
  have hj := f32 false [itoa e.at_, kW e.k, itoa e.n, itoa e.m, [59]] [32] (by simp) hjj
  rw [hv] at h11
  have h21 := f21 e.k k1 k2
  have h30 := f30N (kW e.k) (kA e.k) (kB e.k) (kC e.k) (kD e.k) (kLo e.k) (kHi e.k) e
  rw [hu] at h30
  rw [hA, hB, hC, hD] at h21 h30
  unfold eN at h11 h30 ⊢
  have etr : tR [itoa e.at_, kW e.k, itoa e.n, itoa e.m, [59]] = [[.str (itoa e.at_)], [.str (kW e.k)], [.str (itoa e.n)], [.str (itoa e.m)], [.str ([59])]] := rfl
  rw [etr] at hj
  refine evE_intro 1 D13 rfl ?_
  unfold c13
  simp [h11, ha, hj, hn, hm, h21, h30, f31N]
theorem f13N (e : Ev) (hst : e.st = []) : evE Dg 13 [eN e] = some (.str (txE e)) := by
  by_cases hv : errV e = 0
  · have v := val_of hv
    have := v.at0
    have := v.at1
    have := v.nb
    have := v.mb
    have k1 := v.k1
    have k2 := v.k2
    have a0 : -9223372036854775808 ≤ e.at_ ∧ e.at_ ≤ 9223372036854775807 := by omega
    have n0 : -9223372036854775808 ≤ e.n ∧ e.n ≤ 9223372036854775807 := by omega
    have m0 : -9223372036854775808 ≤ e.m ∧ e.m ≤ 9223372036854775807 := by omega
    have hj : (joinS [32] (wdE e)).length ≤ 1000000 := by
      have h1 := join_le [32] (by simp) 1312 (wdE e) (fun s hs => (v.words s hs).2)
      have h2 := wd_len e
      have : (wdE e).length * (1312 + 1) ≤ 6 * (1312 + 1) := Nat.mul_le_mul_right _ h2
      omega
    have et : txE e = joinS [32] (wdE e) := by unfold txE; rw [if_pos hv]
    rw [et]
    rcases combo k1 k2 with ⟨a, b, c, d⟩ | ⟨a, b, c, d⟩ | ⟨a, b, c, d⟩ | ⟨a, b, c, d⟩ | ⟨a, b, c, d⟩ | ⟨a, b, c, d⟩ | ⟨a, b, c, d⟩
    · exact f13N_0 e hst hv a b c d (by rw [c]; rfl) k1 k2 a0 n0 m0 hj
    · exact f13N_1 e hst hv a b c d (by rw [c]; rfl) k1 k2 a0 n0 m0 hj
    · exact f13N_2 e hst hv a b c d (by rw [c]; rfl) k1 k2 a0 n0 m0 hj
    · exact f13N_3 e hst hv a b c d (by rw [c]; rfl) k1 k2 a0 n0 m0 hj
    · exact f13N_4 e hst hv a b c d (by rw [c]; rfl) k1 k2 a0 n0 m0 hj
    · cases hu : uM (kC e.k) e.k e.n with
      | false => exact f13N_5 e hst hv a b c d hu k1 k2 a0 n0 m0 hj
      | true => exact f13N_6 e hst hv a b c d hu k1 k2 a0 n0 m0 hj
    · have h9 : ¬ e.k = 9 := fun h => by rw [h] at d; exact absurd d (by decide)
      have hu : uM (kC e.k) e.k e.n = true := by rw [c]; unfold uM; rw [decide_eq_false h9]; rfl
      exact f13N_7 e hst hv a b c d hu k1 k2 a0 n0 m0 hj
  · unfold txE
    rw [if_neg hv]
    exact f13N_no e hst hv
end Go.Proofs.YtidkdiooempkpaaDoor
