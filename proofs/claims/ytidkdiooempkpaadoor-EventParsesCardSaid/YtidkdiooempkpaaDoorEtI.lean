/- event: the words of a text; Join, a stack's text. -/
-- LATT
import Derived.Test.YtidkdiooempkpaaDoorEtG
import Derived.Lib.ItoaNum
namespace Go.Proofs.YtidkdiooempkpaaDoor
open Go Go.RowKit Go.Lib
attribute [local simp] evCode evOps evOne evOp evPur evEff evPur.chunks fillP AOp.isEff AO.ev putP PV.cells PV.leaf getB getM mapE iterE keyC mapRows mfind eq1 eqL scal binP unP minP maxP foldP PV.lt PV.lt.ltL endP expoAll expoG expo expo.expoL frIds frIds.frIdsL nodupN kill cls clsFuel resO RV.get loadP evC_p evC_s endS endT rowsOf callP thinL unfr unfr.unfrL PV.noMem PV.noMem.noMemL optI mapO norm trimT trimB forget hasN blksLt List.set softChk softGo softRd effTg tgOf chgN sameB PV.same PV.same.sameL PV.same.sameLL rdP
set_option linter.unusedVariables false
set_option linter.unusedSimpArgs false
set_option maxHeartbeats 4000000
set_option maxRecDepth 100000

theorem f45 (n : Int) (h : -9223372036854775808 ≤ n ∧ n ≤ 9223372036854775807) : evE Dg 45 [.int .i64 n] = some (.str (itoa n)) :=
  evE_ext D45 rfl (by simp only [xItoa]; rw [if_pos h])
theorem f29 (n : Int) (h : -9223372036854775808 ≤ n ∧ n ≤ 9223372036854775807) : evE Dg 29 [.int .i64 n] = some (.str (itoa n)) := by
  have h34 := f45 n h
  refine evE_intro 1 D29 rfl ?_
  unfold c29
  simp [h34]
theorem strsOf_tR : ∀ l : List (List UInt8), strsOf (tR l) = some l
  | [] => rfl
  | s :: l => by
    have := strsOf_tR l
    unfold tR at this ⊢
    simp only [List.map_cons, strsOf, this]
theorem f32 (ex : Bool) (l : List (List UInt8)) (sep : List UInt8) (h1 : l.length ≤ 1000000) (h2 : (joinS sep l).length ≤ 1000000) : evE Dg 32 [.sl ex 1 (tR l), .str sep] = some (.str (joinS sep l)) :=
  evE_ext D32 rfl (by simp only [xJoin, strsOf_tR]; rw [if_pos trivial, if_pos ⟨h1, h2⟩])
/-- a stack's text -/
def stT (l : List (List UInt8)) : List UInt8 := if l = [] then [59] else joinS [59] l
theorem f31 (l : List (List UInt8)) (h1 : l.length ≤ 1000000) (h2 : (joinS [59] l).length ≤ 1000000) : evE Dg 31 [.sl false 1 (tR l)] = some (.str (stT l)) := by
  have h32 := f32 false l [59] h1 h2
  have e1 := tR_len l
  unfold stT
  by_cases h : l = []
  · subst h
    refine evE_intro 1 D31 rfl ?_
    unfold c31
    simp [tR]
  · have hl : ¬ l.length = 0 := fun h0 => h (List.eq_nil_of_length_eq_zero h0)
    have hl' : ¬ ((l.length : Int) = 0) := by omega
    rw [if_neg h]
    refine evE_intro 1 D31 rfl ?_
    unfold c31
    simp [e1, hl, hl', h32]
/-- the words of an event -/
def wdE (e : Ev) : List (List UInt8) :=
  [itoa e.at_, kW e.k] ++ (if kA e.k = true then [e.name] else []) ++ (if kB e.k = true then [itoa e.n] else []) ++ (if uM (kC e.k) e.k e.n = true then [itoa e.m] else []) ++ (if kD e.k = true then [stT e.st] else [])
def txE (e : Ev) : List UInt8 := if errV e = 0 then joinS [32] (wdE e) else []
theorem f13_no (e : Ev) (h : ¬ errV e = 0) : evE Dg 13 [eE e] = some (.str []) := by
  have h11 := f11 e
  obtain ⟨v, hv⟩ : ∃ v, errV e = v := ⟨_, rfl⟩
  rw [hv] at h h11
  rw [eE'] at h11 ⊢
  refine evE_intro 1 D13 rfl ?_
  unfold c13
  simp [h11, h]
theorem f13_0 (e : Ev) (hv : errV e = 0) (hA : kA e.k = true) (hB : kB e.k = false) (hC : kC e.k = false) (hD : kD e.k = false) (hu : uM (kC e.k) e.k e.n = false) (k1 : ¬ e.k < 1) (k2 : ¬ 12 < e.k)
    (a0 : -9223372036854775808 ≤ e.at_ ∧ e.at_ ≤ 9223372036854775807) (n0 : -9223372036854775808 ≤ e.n ∧ e.n ≤ 9223372036854775807) (m0 : -9223372036854775808 ≤ e.m ∧ e.m ≤ 9223372036854775807)
    (hs : e.st.length ≤ 1000000) (hsj : (joinS [59] e.st).length ≤ 1000000) (hj : (joinS [32] (wdE e)).length ≤ 1000000) : evE Dg 13 [eE e] = some (.str (joinS [32] (wdE e))) := by
  have h11 := f11 e
  have h21 := f21 e.k k1 k2
  have h30 := f30 (kW e.k) (kA e.k) (kB e.k) (kC e.k) (kD e.k) (kLo e.k) (kHi e.k) e
  have h29 := f29 e.at_ a0
  have hn := f29 e.n n0
  have hm := f29 e.m m0
  have h31 := f31 e.st hs hsj
  have ew : wdE e = [itoa e.at_, kW e.k, e.name] := by unfold wdE; rw [hu, hA, hB, hD]; rfl
  rw [ew] at hj ⊢
  have h32 := f32 false [itoa e.at_, kW e.k, e.name] [32] (by simp) hj
  rw [hu] at h30
  rw [hA, hB, hC, hD] at h21 h30
  rw [hv] at h11
  rw [eE'] at h11 h30 ⊢
  have etr : tR [itoa e.at_, kW e.k, e.name] = [[.str (itoa e.at_)], [.str (kW e.k)], [.str (e.name)]] := rfl
  rw [etr] at h32
  generalize stT e.st = z at *
  refine evE_intro 1 D13 rfl ?_
  unfold c13
  simp [h11, h21, h30, h29, h32]
theorem f13_1 (e : Ev) (hv : errV e = 0) (hA : kA e.k = false) (hB : kB e.k = false) (hC : kC e.k = false) (hD : kD e.k = false) (hu : uM (kC e.k) e.k e.n = false) (k1 : ¬ e.k < 1) (k2 : ¬ 12 < e.k)
    (a0 : -9223372036854775808 ≤ e.at_ ∧ e.at_ ≤ 9223372036854775807) (n0 : -9223372036854775808 ≤ e.n ∧ e.n ≤ 9223372036854775807) (m0 : -9223372036854775808 ≤ e.m ∧ e.m ≤ 9223372036854775807)
    (hs : e.st.length ≤ 1000000) (hsj : (joinS [59] e.st).length ≤ 1000000) (hj : (joinS [32] (wdE e)).length ≤ 1000000) : evE Dg 13 [eE e] = some (.str (joinS [32] (wdE e))) := by
  have h11 := f11 e
  have h21 := f21 e.k k1 k2
  have h30 := f30 (kW e.k) (kA e.k) (kB e.k) (kC e.k) (kD e.k) (kLo e.k) (kHi e.k) e
  have h29 := f29 e.at_ a0
  have hn := f29 e.n n0
  have hm := f29 e.m m0
  have h31 := f31 e.st hs hsj
  have ew : wdE e = [itoa e.at_, kW e.k] := by unfold wdE; rw [hu, hA, hB, hD]; rfl
  rw [ew] at hj ⊢
  have h32 := f32 false [itoa e.at_, kW e.k] [32] (by simp) hj
  rw [hu] at h30
  rw [hA, hB, hC, hD] at h21 h30
  rw [hv] at h11
  rw [eE'] at h11 h30 ⊢
  have etr : tR [itoa e.at_, kW e.k] = [[.str (itoa e.at_)], [.str (kW e.k)]] := rfl
  rw [etr] at h32
  generalize stT e.st = z at *
  refine evE_intro 1 D13 rfl ?_
  unfold c13
  simp [h11, h21, h30, h29, h32]
theorem f13_2 (e : Ev) (hv : errV e = 0) (hA : kA e.k = true) (hB : kB e.k = true) (hC : kC e.k = false) (hD : kD e.k = false) (hu : uM (kC e.k) e.k e.n = false) (k1 : ¬ e.k < 1) (k2 : ¬ 12 < e.k)
    (a0 : -9223372036854775808 ≤ e.at_ ∧ e.at_ ≤ 9223372036854775807) (n0 : -9223372036854775808 ≤ e.n ∧ e.n ≤ 9223372036854775807) (m0 : -9223372036854775808 ≤ e.m ∧ e.m ≤ 9223372036854775807)
    (hs : e.st.length ≤ 1000000) (hsj : (joinS [59] e.st).length ≤ 1000000) (hj : (joinS [32] (wdE e)).length ≤ 1000000) : evE Dg 13 [eE e] = some (.str (joinS [32] (wdE e))) := by
  have h11 := f11 e
  have h21 := f21 e.k k1 k2
  have h30 := f30 (kW e.k) (kA e.k) (kB e.k) (kC e.k) (kD e.k) (kLo e.k) (kHi e.k) e
  have h29 := f29 e.at_ a0
  have hn := f29 e.n n0
  have hm := f29 e.m m0
  have h31 := f31 e.st hs hsj
  have ew : wdE e = [itoa e.at_, kW e.k, e.name, itoa e.n] := by unfold wdE; rw [hu, hA, hB, hD]; rfl
  rw [ew] at hj ⊢
  have h32 := f32 false [itoa e.at_, kW e.k, e.name, itoa e.n] [32] (by simp) hj
  rw [hu] at h30
  rw [hA, hB, hC, hD] at h21 h30
  rw [hv] at h11
  rw [eE'] at h11 h30 ⊢
  have etr : tR [itoa e.at_, kW e.k, e.name, itoa e.n] = [[.str (itoa e.at_)], [.str (kW e.k)], [.str (e.name)], [.str (itoa e.n)]] := rfl
  rw [etr] at h32
  generalize stT e.st = z at *
  refine evE_intro 1 D13 rfl ?_
  unfold c13
  simp [h11, h21, h30, h29, h32, hn]
theorem f13_3 (e : Ev) (hv : errV e = 0) (hA : kA e.k = false) (hB : kB e.k = true) (hC : kC e.k = false) (hD : kD e.k = true) (hu : uM (kC e.k) e.k e.n = false) (k1 : ¬ e.k < 1) (k2 : ¬ 12 < e.k)
    (a0 : -9223372036854775808 ≤ e.at_ ∧ e.at_ ≤ 9223372036854775807) (n0 : -9223372036854775808 ≤ e.n ∧ e.n ≤ 9223372036854775807) (m0 : -9223372036854775808 ≤ e.m ∧ e.m ≤ 9223372036854775807)
    (hs : e.st.length ≤ 1000000) (hsj : (joinS [59] e.st).length ≤ 1000000) (hj : (joinS [32] (wdE e)).length ≤ 1000000) : evE Dg 13 [eE e] = some (.str (joinS [32] (wdE e))) := by
  have h11 := f11 e
  have h21 := f21 e.k k1 k2
  have h30 := f30 (kW e.k) (kA e.k) (kB e.k) (kC e.k) (kD e.k) (kLo e.k) (kHi e.k) e
  have h29 := f29 e.at_ a0
  have hn := f29 e.n n0
  have hm := f29 e.m m0
  have h31 := f31 e.st hs hsj
  have ew : wdE e = [itoa e.at_, kW e.k, itoa e.n, stT e.st] := by unfold wdE; rw [hu, hA, hB, hD]; rfl
  rw [ew] at hj ⊢
  have h32 := f32 false [itoa e.at_, kW e.k, itoa e.n, stT e.st] [32] (by simp) hj
  rw [hu] at h30
  rw [hA, hB, hC, hD] at h21 h30
  rw [hv] at h11
  rw [eE'] at h11 h30 ⊢
  have etr : tR [itoa e.at_, kW e.k, itoa e.n, stT e.st] = [[.str (itoa e.at_)], [.str (kW e.k)], [.str (itoa e.n)], [.str (stT e.st)]] := rfl
  rw [etr] at h32
  generalize stT e.st = z at *
  refine evE_intro 1 D13 rfl ?_
  unfold c13
  simp [h11, h21, h30, h29, h32, hn, h31]
theorem f13_4 (e : Ev) (hv : errV e = 0) (hA : kA e.k = false) (hB : kB e.k = true) (hC : kC e.k = false) (hD : kD e.k = false) (hu : uM (kC e.k) e.k e.n = false) (k1 : ¬ e.k < 1) (k2 : ¬ 12 < e.k)
    (a0 : -9223372036854775808 ≤ e.at_ ∧ e.at_ ≤ 9223372036854775807) (n0 : -9223372036854775808 ≤ e.n ∧ e.n ≤ 9223372036854775807) (m0 : -9223372036854775808 ≤ e.m ∧ e.m ≤ 9223372036854775807)
    (hs : e.st.length ≤ 1000000) (hsj : (joinS [59] e.st).length ≤ 1000000) (hj : (joinS [32] (wdE e)).length ≤ 1000000) : evE Dg 13 [eE e] = some (.str (joinS [32] (wdE e))) := by
  have h11 := f11 e
  have h21 := f21 e.k k1 k2
  have h30 := f30 (kW e.k) (kA e.k) (kB e.k) (kC e.k) (kD e.k) (kLo e.k) (kHi e.k) e
  have h29 := f29 e.at_ a0
  have hn := f29 e.n n0
  have hm := f29 e.m m0
  have h31 := f31 e.st hs hsj
  have ew : wdE e = [itoa e.at_, kW e.k, itoa e.n] := by unfold wdE; rw [hu, hA, hB, hD]; rfl
  rw [ew] at hj ⊢
  have h32 := f32 false [itoa e.at_, kW e.k, itoa e.n] [32] (by simp) hj
  rw [hu] at h30
  rw [hA, hB, hC, hD] at h21 h30
  rw [hv] at h11
  rw [eE'] at h11 h30 ⊢
  have etr : tR [itoa e.at_, kW e.k, itoa e.n] = [[.str (itoa e.at_)], [.str (kW e.k)], [.str (itoa e.n)]] := rfl
  rw [etr] at h32
  generalize stT e.st = z at *
  refine evE_intro 1 D13 rfl ?_
  unfold c13
  simp [h11, h21, h30, h29, h32, hn]
theorem f13_5 (e : Ev) (hv : errV e = 0) (hA : kA e.k = false) (hB : kB e.k = true) (hC : kC e.k = true) (hD : kD e.k = false) (hu : uM (kC e.k) e.k e.n = false) (k1 : ¬ e.k < 1) (k2 : ¬ 12 < e.k)
    (a0 : -9223372036854775808 ≤ e.at_ ∧ e.at_ ≤ 9223372036854775807) (n0 : -9223372036854775808 ≤ e.n ∧ e.n ≤ 9223372036854775807) (m0 : -9223372036854775808 ≤ e.m ∧ e.m ≤ 9223372036854775807)
    (hs : e.st.length ≤ 1000000) (hsj : (joinS [59] e.st).length ≤ 1000000) (hj : (joinS [32] (wdE e)).length ≤ 1000000) : evE Dg 13 [eE e] = some (.str (joinS [32] (wdE e))) := by
  have h11 := f11 e
  have h21 := f21 e.k k1 k2
  have h30 := f30 (kW e.k) (kA e.k) (kB e.k) (kC e.k) (kD e.k) (kLo e.k) (kHi e.k) e
  have h29 := f29 e.at_ a0
  have hn := f29 e.n n0
  have hm := f29 e.m m0
  have h31 := f31 e.st hs hsj
  have ew : wdE e = [itoa e.at_, kW e.k, itoa e.n] := by unfold wdE; rw [hu, hA, hB, hD]; rfl
  rw [ew] at hj ⊢
  have h32 := f32 false [itoa e.at_, kW e.k, itoa e.n] [32] (by simp) hj
  rw [hu] at h30
  rw [hA, hB, hC, hD] at h21 h30
  rw [hv] at h11
  rw [eE'] at h11 h30 ⊢
  have etr : tR [itoa e.at_, kW e.k, itoa e.n] = [[.str (itoa e.at_)], [.str (kW e.k)], [.str (itoa e.n)]] := rfl
  rw [etr] at h32
  generalize stT e.st = z at *
  refine evE_intro 1 D13 rfl ?_
  unfold c13
  simp [h11, h21, h30, h29, h32, hn]
theorem f13_6 (e : Ev) (hv : errV e = 0) (hA : kA e.k = false) (hB : kB e.k = true) (hC : kC e.k = true) (hD : kD e.k = false) (hu : uM (kC e.k) e.k e.n = true) (k1 : ¬ e.k < 1) (k2 : ¬ 12 < e.k)
    (a0 : -9223372036854775808 ≤ e.at_ ∧ e.at_ ≤ 9223372036854775807) (n0 : -9223372036854775808 ≤ e.n ∧ e.n ≤ 9223372036854775807) (m0 : -9223372036854775808 ≤ e.m ∧ e.m ≤ 9223372036854775807)
    (hs : e.st.length ≤ 1000000) (hsj : (joinS [59] e.st).length ≤ 1000000) (hj : (joinS [32] (wdE e)).length ≤ 1000000) : evE Dg 13 [eE e] = some (.str (joinS [32] (wdE e))) := by
  have h11 := f11 e
  have h21 := f21 e.k k1 k2
  have h30 := f30 (kW e.k) (kA e.k) (kB e.k) (kC e.k) (kD e.k) (kLo e.k) (kHi e.k) e
  have h29 := f29 e.at_ a0
  have hn := f29 e.n n0
  have hm := f29 e.m m0
  have h31 := f31 e.st hs hsj
  have ew : wdE e = [itoa e.at_, kW e.k, itoa e.n, itoa e.m] := by unfold wdE; rw [hu, hA, hB, hD]; rfl
  rw [ew] at hj ⊢
  have h32 := f32 false [itoa e.at_, kW e.k, itoa e.n, itoa e.m] [32] (by simp) hj
  rw [hu] at h30
  rw [hA, hB, hC, hD] at h21 h30
  rw [hv] at h11
  rw [eE'] at h11 h30 ⊢
  have etr : tR [itoa e.at_, kW e.k, itoa e.n, itoa e.m] = [[.str (itoa e.at_)], [.str (kW e.k)], [.str (itoa e.n)], [.str (itoa e.m)]] := rfl
  rw [etr] at h32
  generalize stT e.st = z at *
  refine evE_intro 1 D13 rfl ?_
  unfold c13
  simp [h11, h21, h30, h29, h32, hn, hm]
theorem f13_7 (e : Ev) (hv : errV e = 0) (hA : kA e.k = false) (hB : kB e.k = true) (hC : kC e.k = true) (hD : kD e.k = true) (hu : uM (kC e.k) e.k e.n = true) (k1 : ¬ e.k < 1) (k2 : ¬ 12 < e.k)
    (a0 : -9223372036854775808 ≤ e.at_ ∧ e.at_ ≤ 9223372036854775807) (n0 : -9223372036854775808 ≤ e.n ∧ e.n ≤ 9223372036854775807) (m0 : -9223372036854775808 ≤ e.m ∧ e.m ≤ 9223372036854775807)
    (hs : e.st.length ≤ 1000000) (hsj : (joinS [59] e.st).length ≤ 1000000) (hj : (joinS [32] (wdE e)).length ≤ 1000000) : evE Dg 13 [eE e] = some (.str (joinS [32] (wdE e))) := by
  have h11 := f11 e
  have h21 := f21 e.k k1 k2
  have h30 := f30 (kW e.k) (kA e.k) (kB e.k) (kC e.k) (kD e.k) (kLo e.k) (kHi e.k) e
  have h29 := f29 e.at_ a0
  have hn := f29 e.n n0
  have hm := f29 e.m m0
  have h31 := f31 e.st hs hsj
  have ew : wdE e = [itoa e.at_, kW e.k, itoa e.n, itoa e.m, stT e.st] := by unfold wdE; rw [hu, hA, hB, hD]; rfl
  rw [ew] at hj ⊢
  have h32 := f32 false [itoa e.at_, kW e.k, itoa e.n, itoa e.m, stT e.st] [32] (by simp) hj
  rw [hu] at h30
  rw [hA, hB, hC, hD] at h21 h30
  rw [hv] at h11
  rw [eE'] at h11 h30 ⊢
  have etr : tR [itoa e.at_, kW e.k, itoa e.n, itoa e.m, stT e.st] = [[.str (itoa e.at_)], [.str (kW e.k)], [.str (itoa e.n)], [.str (itoa e.m)], [.str (stT e.st)]] := rfl
  rw [etr] at h32
  generalize stT e.st = z at *
  refine evE_intro 1 D13 rfl ?_
  unfold c13
  simp [h11, h21, h30, h29, h32, hn, hm, h31]
theorem f13 (e : Ev) (a0 : -9223372036854775808 ≤ e.at_ ∧ e.at_ ≤ 9223372036854775807) (n0 : -9223372036854775808 ≤ e.n ∧ e.n ≤ 9223372036854775807) (m0 : -9223372036854775808 ≤ e.m ∧ e.m ≤ 9223372036854775807)
    (hs : e.st.length ≤ 1000000) (hsj : (joinS [59] e.st).length ≤ 1000000) (hj : errV e = 0 → (joinS [32] (wdE e)).length ≤ 1000000) : evE Dg 13 [eE e] = some (.str (txE e)) := by
  unfold txE
  by_cases hv : errV e = 0
  · rw [if_pos hv]
    have hj := hj hv
    have kk : ¬ e.k < 1 ∧ ¬ 12 < e.k := by
      unfold errV at hv
      split at hv
      · cases hv
      · split at hv
        · cases hv
        · rename_i h; exact ⟨fun q => h (.inl q), fun q => h (.inr q)⟩
    obtain ⟨k1, k2⟩ := kk
    rcases combo k1 k2 with ⟨a, b, c, d⟩ | ⟨a, b, c, d⟩ | ⟨a, b, c, d⟩ | ⟨a, b, c, d⟩ | ⟨a, b, c, d⟩ | ⟨a, b, c, d⟩ | ⟨a, b, c, d⟩
    · exact f13_0 e hv a b c d (by rw [c]; rfl) k1 k2 a0 n0 m0 hs hsj hj
    · exact f13_1 e hv a b c d (by rw [c]; rfl) k1 k2 a0 n0 m0 hs hsj hj
    · exact f13_2 e hv a b c d (by rw [c]; rfl) k1 k2 a0 n0 m0 hs hsj hj
    · exact f13_3 e hv a b c d (by rw [c]; rfl) k1 k2 a0 n0 m0 hs hsj hj
    · exact f13_4 e hv a b c d (by rw [c]; rfl) k1 k2 a0 n0 m0 hs hsj hj
    · cases hu : uM (kC e.k) e.k e.n with
      | false => exact f13_5 e hv a b c d hu k1 k2 a0 n0 m0 hs hsj hj
      | true => exact f13_6 e hv a b c d hu k1 k2 a0 n0 m0 hs hsj hj
    · have hk : ¬ e.k = 9 := fun h => by rw [h] at d; exact absurd d (by decide)
      have hu : uM (kC e.k) e.k e.n = true := by rw [c]; unfold uM; rw [decide_eq_false hk]; rfl
      exact f13_7 e hv a b c d hu k1 k2 a0 n0 m0 hs hsj hj
  · rw [if_neg hv]; exact f13_no e hv
end Go.Proofs.YtidkdiooempkpaaDoor
