/- event: Parse of an event's text; EventTexts. -/
-- LATT
import Derived.Test.YtidkdiooempkpaaDoorEtU
import Derived.Test.YtidkdiooempkpaaDoorEtNE
import Derived.Test.YtidkdiooempkpaaDoorEtNF
namespace Go.Proofs.YtidkdiooempkpaaDoor
open Go Go.RowKit Go.Lib
attribute [local simp] evCode evOps evOne evOp evPur evEff evPur.chunks fillP AOp.isEff AO.ev putP PV.cells PV.leaf getB getM mapE iterE keyC mapRows mfind eq1 eqL scal binP unP minP maxP foldP PV.lt PV.lt.ltL endP expoAll expoG expo expo.expoL frIds frIds.frIdsL nodupN kill cls clsFuel resO RV.get loadP evC_p evC_s endS endT rowsOf callP thinL unfr unfr.unfrL PV.noMem PV.noMem.noMemL optI mapO norm trimT trimB forget hasN blksLt List.set softChk softGo softRd effTg tgOf chgN sameB PV.same PV.same.sameL PV.same.sameLL rdP
set_option linter.unusedVariables false
set_option linter.unusedSimpArgs false
set_option maxHeartbeats 4000000
set_option maxRecDepth 100000

def ini (e : Ev) : List (List UInt8) :=
  [itoa e.at_, kW e.k] ++ (if kA e.k = true then [e.name] else []) ++ (if kB e.k = true then [itoa e.n] else []) ++ (if uM (kC e.k) e.k e.n = true then [itoa e.m] else [])
theorem wd_ini (e : Ev) : wdE e = ini e ++ (if kD e.k = true then [stT e.st] else []) := rfl
theorem ini_mem {e : Ev} (v : Val e) : ∀ s ∈ ini e, s.length ≤ 40 := by
  have hn := v.nb
  have hm := v.mb
  have l1 := itoa_len e.at_ (by have := v.at0; have := v.at1; omega)
  have l2 := itoa_len e.n hn
  have l3 := itoa_len e.m (by omega)
  obtain ⟨w1, w2⟩ := kW_no v.k1 v.k2
  obtain ⟨q1, q2⟩ := v.name
  intro s hs
  unfold ini at hs
  simp only [List.mem_append, List.mem_cons, List.not_mem_nil, or_false] at hs
  have ite : ∀ {b : Bool} {t : List UInt8}, s ∈ (if b = true then [t] else []) → s = t := fun {b t} h => by
    cases b <;> simp at h
    exact h
  rcases hs with (((rfl | rfl) | h) | h) | h
  · omega
  · omega
  · obtain rfl := ite h; omega
  · obtain rfl := ite h; omega
  · obtain rfl := ite h; omega
theorem ini_len (e : Ev) : 2 ≤ (ini e).length ∧ (ini e).length ≤ 5 := by
  unfold ini
  simp only [List.length_append, List.length_cons, List.length_nil]
  split <;> split <;> split <;> simp
theorem tx_len {e : Ev} (hv : errV e = 0) : (txE e).length ≤ 2000 := by
  have v := val_of hv
  obtain ⟨f1, f2⟩ := v.frames
  obtain ⟨g1, g2⟩ := stT_len f2 f1
  have h1 := join_le [32] (by simp) 40 (ini e) (ini_mem v)
  have h2 := ini_len e
  have h3 : (ini e).length * (40 + 1) ≤ 5 * 41 := Nat.mul_le_mul_right _ h2.2
  unfold txE
  rw [if_pos hv, wd_ini]
  cases hd : kD e.k with
  | true =>
    rw [if_pos rfl, join_snoc _ _ _ (fun h => by rw [h] at h2; simp at h2)]
    simp only [List.length_append, List.length_cons, List.length_nil]
    omega
  | false =>
    rw [if_neg (by decide), List.append_nil]
    omega
theorem stT_nil {l : List (List UInt8)} (h : ∀ s ∈ l, nameOk s = true) : stT l = [59] ↔ l = [] := by
  constructor
  · intro he
    exact stT_inj h (fun s hs => by cases hs) (by rw [he]; rfl)
  · intro he
    rw [he]; rfl
theorem inB_of {n : Int} (h : -1000000000000000 ≤ n ∧ n ≤ 1000000000000000) : inB n = true := (inB_iff n).2 h
theorem read_back {e : Ev} (v : Val e) : rE (wdE e) e.k = e ∧ rNil (wdE e) e.k = (!kD e.k || decide (e.st = [])) ∧ i3 (wdE e) e.k = (ini e).length ∧ kOf (wAt (wdE e) 1) = e.k := by
  have pa := (pV_itoa (inB_of (show -1000000000000000 ≤ e.at_ ∧ e.at_ ≤ 1000000000000000 by have := v.at0; have := v.at1; omega))).1
  have pn := (pV_itoa (inB_of v.nb)).1
  have pm := (pV_itoa (inB_of (show -1000000000000000 ≤ e.m ∧ e.m ≤ 1000000000000000 by have := v.mb; omega))).1
  have w0 : wAt (wdE e) 0 = itoa e.at_ := rfl
  have w1 : wAt (wdE e) 1 = kW e.k := rfl
  have wa : kA e.k = true → wAt (wdE e) 2 = e.name := fun h => by unfold wdE; rw [h]; rfl
  have hN : rN (wdE e) e.k = e.n := by
    unfold rN
    cases hb : kB e.k with
    | true =>
      rw [if_pos rfl]
      have : wAt (wdE e) (i1 e.k) = itoa e.n := by
        unfold i1 wdE
        rw [hb]
        cases ha : kA e.k <;> rfl
      rw [this, pn]
    | false => rw [if_neg (by decide), v.nn0 hb]
  have hU : rU (wdE e) e.k = uM (kC e.k) e.k e.n := by unfold rU; rw [hN]
  have hM : rM (wdE e) e.k = e.m := by
    unfold rM
    rw [hU]
    cases hu : uM (kC e.k) e.k e.n with
    | true =>
      rw [if_pos rfl]
      have : wAt (wdE e) (i2 e.k) = itoa e.m := by
        unfold i2 i1 wdE
        rw [hu]
        cases ha : kA e.k <;> cases hb : kB e.k <;> rfl
      rw [this, pm]
    | false => rw [if_neg (by decide), v.m0 hu]
  have h3 : i3 (wdE e) e.k = (ini e).length := by
    unfold i3 ini
    rw [hU]
    unfold i2 i1
    cases ha : kA e.k <;> cases hb : kB e.k <;> cases hu : uM (kC e.k) e.k e.n <;> rfl
  have hW : kD e.k = true → wAt (wdE e) (i3 (wdE e) e.k) = stT e.st := fun hd => by
    rw [h3, wd_ini, hd, if_pos rfl]
    unfold wAt
    rw [List.getElem?_append_right (Nat.le_refl _), Nat.sub_self]
    rfl
  have hS : rS (wdE e) e.k = e.st := by
    unfold rS
    cases hd : kD e.k with
    | true =>
      have f2 := v.frames.2
      rw [if_pos rfl, hW hd]
      by_cases h : e.st = []
      · rw [if_pos ((stT_nil f2).2 h), h]
      · rw [if_neg (fun hh => h ((stT_nil f2).1 hh))]
        unfold stT
        rw [if_neg h]
        exact cut_join 59 e.st h (fun s hs x hx => (name_no (f2 s hs) x hx).2)
    | false => rw [if_neg (by decide), v.st0 hd]
  refine ⟨?_, ?_, h3, by rw [w1]; exact kOf_kW v.k1 v.k2⟩
  · unfold rE
    rw [hN, hM, hS, w0, pa]
    obtain ⟨a, k, nm, n, m, st⟩ := e
    simp only at *
    congr 1
    cases ha : kA k with
    | true => rw [if_pos rfl]; exact wa ha
    | false => rw [if_neg (by decide)]; exact (v.nm0 ha).symm
  · unfold rNil
    cases hd : kD e.k with
    | true =>
      rw [hW hd]
      have := stT_nil v.frames.2
      simp only [Bool.not_true, Bool.false_or, decide_eq_decide]
      exact this
    | false => rfl
theorem read_ok {e : Ev} (hv : errV e = 0) (x : Bool) : evE Dg 36 [.sl x 1 (tR (wdE e))] = some (.tup [eO (!kD e.k || decide (e.st = [])) e, .bool true]) := by
  have v := val_of hv
  obtain ⟨r1, r2, r3, r4⟩ := read_back v
  have h := f36_yes x (wdE e) e.k (by have := wd_len e; omega)
    (fun i hi => by
      rw [r3] at hi
      have : wAt (wdE e) i = wAt (ini e) i := by
        unfold wAt
        rw [wd_ini, List.getElem?_append_left hi]
      rw [this]
      have := wAt_le (ini_mem v) i
      unfold lim
      omega)
    (by
      have := wAt_le (W := wdE e) (B := 1312) (fun s hs => (v.words s hs).2) (i3 (wdE e) e.k)
      omega) r4 v.k1 v.k2
  rw [r1, r2] at h
  exact h
theorem eO_text (q : Bool) (e : Ev) (h : q = true → e.st = []) : evE Dg 13 [eO q e] = some (.str (txE e)) := by
  cases q with
  | true => exact f13N e (h rfl)
  | false => exact f13a e
theorem eO_same (q : Bool) (e : Ev) (h : q = true → e.st = []) (hl : e.st.length ≤ 1000000000000) : evE Dg 16 [eO q e, eE e] = some (.bool true) := by
  cases q with
  | true =>
    have hst := h rfl
    have h38 : evE Dg 38 [.nilS, .sl false 1 []] = some (.bool true) := evE_of (n := 10) (by kernel_rfl)
    obtain ⟨a, k, nm, n, m, st⟩ := e
    simp only at hst
    subst hst
    show evE Dg 16 [eN _, _] = _
    rw [eE']
    unfold eN
    simp only [tR, List.map_nil]
    refine evE_intro 1 D16 rfl ?_
    unfold c16
    simp [h38]
  | false =>
    have := f16 false false e e hl
    rw [(smE_iff e e).2 rfl] at this
    exact this
theorem nil_st {e : Ev} (hv : errV e = 0) : (!kD e.k || decide (e.st = [])) = true → e.st = [] := by
  intro h
  cases hd : kD e.k with
  | true => rw [hd] at h; simpa using h
  | false => exact (val_of hv).st0 hd
theorem eO_agg (q : Bool) (e : Ev) : ∃ s, eO q e = .agg [.int .i64 e.at_, .int .i64 e.k, .str e.name, .int .i64 e.n, .int .i64 e.m, s] ∧ (s = .nilS ∨ ∃ y, s = .sl false 1 y) := by
  cases q with
  | true => exact ⟨_, rfl, .inl rfl⟩
  | false => exact ⟨_, rfl, .inr ⟨_, rfl⟩⟩
theorem f15_ok {e : Ev} (hv : errV e = 0) : evE Dg 15 [.str (txE e)] = some (.tup [eO (!kD e.k || decide (e.st = [])) e, .int .i64 0]) := by
  have v := val_of hv
  have hl := tx_len hv
  have hl1 : ¬ (2000 : Int) < ((txE e).length : Int) := by omega
  have hc : cutB 32 (txE e) = wdE e := by
    unfold txE
    rw [if_pos hv]
    exact cut_join 32 (wdE e) (by unfold wdE; simp) (fun s hs => (v.words s hs).1)
  have h37 := f37 32 (txE e) (by omega)
  rw [hc] at h37
  have h36 := read_ok hv false
  have h13 := eO_text _ e (nil_st hv)
  generalize (!kD e.k || decide (e.st = [])) = q at *
  obtain ⟨s, hs, ht⟩ := eO_agg q e
  rw [hs] at h36 h13 ⊢
  generalize txE e = t at *
  rcases ht with rfl | ⟨y, rfl⟩
  · refine evE_intro 1 D15 rfl ?_
    unfold c15
    simp [hl, hl1, h37, h36, h13]
  · refine evE_intro 1 D15 rfl ?_
    unfold c15
    simp [hl, hl1, h37, h36, h13]
theorem f15_nil : evE Dg 15 [.str []] = some (.tup [.agg [.int .i64 0, .int .i64 0, .str [], .int .i64 0, .int .i64 0, .nilS], .int .i64 10]) := evE_of (n := 30) (by kernel_rfl)
theorem sm_st4 {e : Ev} (h : smB e = true) : e.st.length ≤ 1000000000000 := by
  unfold smB at h
  simp only [Bool.and_eq_true, decide_eq_true_eq] at h
  omega
theorem f4 (e : Ev) : evE Dg 4 [eE e] = some (.bool true) := by
  have h10 := f10
  have h9 := f9 e
  have h11 := f11 e
  have h13 := f13a e
  have h14 := f14a e
  cases hs : smB e with
  | false =>
    rw [hs] at h9
    rw [eE'] at *
    refine evE_intro 1 D4 rfl ?_
    unfold c4
    simp [h10, h9]
  | true =>
    rw [hs] at h9
    by_cases hv : errV e = 0
    · have h15 := f15_ok hv
      have h16 := eO_same (!kD e.k || decide (e.st = [])) e (nil_st hv) (sm_st4 hs)
      rw [hv] at h11
      generalize (!kD e.k || decide (e.st = [])) = q at *
      obtain ⟨s, hss, ht⟩ := eO_agg q e
      rw [hss] at h15 h16
      rw [eE'] at *
      generalize txE e = t at *
      rcases ht with rfl | ⟨y, rfl⟩
      · refine evE_intro 1 D4 rfl ?_
        unfold c4
        simp [h10, h9, h11, h13, h14, h15, h16]
      · refine evE_intro 1 D4 rfl ?_
        unfold c4
        simp [h10, h9, h11, h13, h14, h15, h16]
    · have ht : txE e = [] := by unfold txE; rw [if_neg hv]
      rw [ht] at h13 h14
      have h15 := f15_nil
      generalize errV e = r at *
      rw [eE'] at *
      refine evE_intro 1 D4 rfl ?_
      unfold c4
      simp [h10, h9, h11, h13, h14, h15, hv]
theorem law4 (ps : List PV) (h : ArgL Tryd.prog 12 [25] ps) : evE Dg 4 ps = some (.bool true) := by
  obtain ⟨p, rfl, h1⟩ := argL1 h
  obtain ⟨e, rfl⟩ := in_ev h1
  exact f4 e
end Go.Proofs.YtidkdiooempkpaaDoor
