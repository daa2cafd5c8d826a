/- event: small; EventChecks, EventFields. -/
-- LATT
import Derived.Test.YtidkdiooempkpaaDoorEtF
import Derived.Test.YtidkdiooempkpaaDoorAw
import Derived.Test.YtidkdiooempkpaaDoorGc
namespace Go.Proofs.YtidkdiooempkpaaDoor
open Go Go.RowKit
attribute [local simp] evCode evOps evOne evOp evPur evEff evPur.chunks fillP AOp.isEff AO.ev putP PV.cells PV.leaf getB getM mapE iterE keyC mapRows mfind eq1 eqL scal binP unP minP maxP foldP PV.lt PV.lt.ltL endP expoAll expoG expo expo.expoL frIds frIds.frIdsL nodupN kill cls clsFuel resO RV.get loadP evC_p evC_s endS endT rowsOf callP thinL unfr unfr.unfrL PV.noMem PV.noMem.noMemL optI mapO norm trimT trimB forget hasN blksLt List.set softChk softGo softRd effTg tgOf chgN sameB PV.same PV.same.sameL PV.same.sameLL rdP
set_option linter.unusedVariables false
set_option linter.unusedSimpArgs false
set_option maxHeartbeats 4000000
set_option maxRecDepth 100000

def tR (l : List (List UInt8)) : List (List PV) := l.map fun t => [.str t]
theorem tR_len (l : List (List UInt8)) : (tR l).length = l.length := by simp [tR]
theorem tR_get {l : List (List UInt8)} {k : Nat} {z : List UInt8} (h : l[k]? = some z) : (tR l)[k]? = some [.str z] := by simp [tR, h]
theorem tR_got {l : List (List UInt8)} {k : Nat} {z : List UInt8} (h : l[k]? = some z) : ∀ q, (tR l)[k]'q = [.str z] := fun q => by
  have := tR_get h
  rw [List.getElem?_eq_getElem q] at this
  exact Option.some.inj this
def eC' (e : Ev) : List PV := [.int .i64 e.at_, .int .i64 e.k, .str e.name, .int .i64 e.n, .int .i64 e.m, .sl false 1 (tR e.st)]
theorem eE' (e : Ev) : eE e = .agg [.int .i64 e.at_, .int .i64 e.k, .str e.name, .int .i64 e.n, .int .i64 e.m, .sl false 1 (tR e.st)] := rfl
def smB (e : Ev) : Bool := decide (e.name.length ≤ 200) && decide (e.st.length ≤ 60) && e.st.all fun t => decide (t.length ≤ 200)
def S9 (e : Ev) (k : Nat) : St := ⟨[.top, .ptr 0 1 0 0, .top, .int .i64 k] ++ List.replicate 24 .top, [some ⟨1, 6, true, [[.int .i64 e.at_, .int .i64 e.k, .str e.name, .int .i64 e.n, .int .i64 e.m, .sl false 1 (tR e.st)]]⟩]⟩
theorem f9 (e : Ev) : evE Dg 9 [eE e] = some (.bool (smB e)) := by
  rw [eE']
  have e1 := tR_len e.st
  by_cases hn : e.name.length ≤ 200
  · have hn' : ¬ (200 < (e.name.length : Int)) := by omega
    by_cases hs : e.st.length ≤ 60
    · have hs' : ¬ (60 < (e.st.length : Int)) := by omega
      have H := loop_all (body := evCode (evC Dg) (e.st.length + 1) c9b0) (keep := [1, 3]) (n0 := 1) (fuel := e.st.length + 1) e.st (S9 e) (fun t => decide (t.length ≤ 200)) (fun t => t.sl[2]?.getD .top = .bool false)
        (by
          rintro k t ht hk hq
          have r1 := tR_get ht
          have g1 := tR_got ht
          have hq' : ¬ (200 < (t.length : Int)) := by simp only [decide_eq_true_eq] at hq; omega
          have hk' : (k : Int) < e.st.length := by omega
          have w1 := wrap_i64 ((k : Int) + 1) (by omega) (by omega)
          unfold c9b0
          simp [S9, e1, r1, g1, hk', hk, w1, hq'])
        (by
          rintro k t ht hk hq
          have r1 := tR_get ht
          have g1 := tR_got ht
          have hq' : (200 < (t.length : Int)) := by simp only [decide_eq_false_iff_not] at hq; omega
          have hk' : (k : Int) < e.st.length := by omega
          unfold c9b0
          simp [S9, e1, r1, g1, hk', hk, hq'])
        (by
          intro s
          unfold c9b0
          simp [S9, e1])
        (by omega)
      have hsm : smB e = e.st.all fun t => decide (t.length ≤ 200) := by simp [smB, hn, hs]
      rw [hsm]
      refine evE_intro (e.st.length + 1) D9 rfl ?_
      unfold c9
      simp [e1, hn', hs']
      generalize hE : evLoop _ _ _ _ _ = E
      rcases H _ _ hE (by simp [S9, e1]) with ⟨q1, q2⟩ | ⟨q1, s, q2, q3⟩
      · rw [q2]
        simp only [List.all_eq_true, decide_eq_true_eq] at q1
        unfold c9b0
        simp [S9, e1]
        exact q1
      · rw [q2]
        have q1' : ¬ ∀ (x : List UInt8), x ∈ e.st → x.length ≤ 200 := fun h => by
          have : (e.st.all fun t => decide (t.length ≤ 200)) = true := List.all_eq_true.2 fun t ht => decide_eq_true (h t ht)
          rw [this] at q1; cases q1
        simp [q3, q1]
    · have hs' : (60 < (e.st.length : Int)) := by omega
      have hsm : smB e = false := by simp [smB, hs]
      rw [hsm]
      refine evE_intro 1 D9 rfl ?_
      unfold c9
      simp [e1, hn', hs']
  · have hn' : (200 < (e.name.length : Int)) := by omega
    have hsm : smB e = false := by simp [smB, hn]
    rw [hsm]
    refine evE_intro 1 D9 rfl ?_
    unfold c9
    simp [e1, hn']
theorem f3 (e : Ev) : evE Dg 3 [eE e] = some (.bool true) := by
  have h10 := f10
  have h9 := f9 e
  have h11 := f11 e
  have h12 := f12 e
  rw [eE'] at *
  generalize errV e = x at *
  refine evE_intro 1 D3 rfl ?_
  unfold c3
  cases hs : smB e with
  | false =>
    rw [hs] at h9
    simp [h10, h9]
  | true =>
    rw [hs] at h9
    simp [h10, h9, h11, h12]
theorem f7_in (a k m0 n0 n : Int) (nm s : List UInt8) (S : List (List PV)) (s0 : ¬ s = []) (z : ¬ n = 0)
    (h9 : evE Dg 9 [.agg [.int .i64 a, .int .i64 k, .str nm, .int .i64 n0, .int .i64 m0, .sl false 1 S]] = some (.bool true))
    (h11 : evE Dg 11 [.agg [.int .i64 a, .int .i64 k, .str nm, .int .i64 n0, .int .i64 m0, .sl false 1 S]] = some (.int .i64 0))
    (ha : nm = [] → evE Dg 11 [.agg [.int .i64 a, .int .i64 k, .str s, .int .i64 n0, .int .i64 m0, .sl false 1 S]] = some (.int .i64 1))
    (hb : ¬ k = 5 → ¬ k = 11 → evE Dg 11 [.agg [.int .i64 a, .int .i64 k, .str nm, .int .i64 n0, .int .i64 m0, .sl true 1 [[.str s]]]] = some (.int .i64 1))
    (hc : k < 4 → evE Dg 11 [.agg [.int .i64 a, .int .i64 k, .str nm, .int .i64 n, .int .i64 m0, .sl false 1 S]] = some (.int .i64 1)) :
    evE Dg 7 [.agg [.int .i64 a, .int .i64 k, .str nm, .int .i64 n0, .int .i64 m0, .sl false 1 S], .str s, .int .i64 n] = some (.bool true) := by
  have h10 := f10
  have n31 : Nat.beq 0 1 = false := rfl
  have n32 : Nat.beq 0 2 = false := rfl
  have n33 : Nat.beq 0 3 = false := rfl
  refine evE_intro 1 D7 rfl ?_
  unfold c7
  by_cases nm0 : nm = []
  · have ha := ha nm0
    by_cases k5 : k = 5
    · have k4 : ¬ k < 4 := by omega
      have k4' : 4 ≤ k := by omega
      simp [h10, h9, h11, eq_false s0, eq_false z, n31, n32, n33, eq_true nm0, ha, eq_true k5, k4, k4']
    · by_cases k11 : k = 11
      · have k4 : ¬ k < 4 := by omega
        have k4' : 4 ≤ k := by omega
        simp [h10, h9, h11, eq_false s0, eq_false z, n31, n32, n33, eq_true nm0, ha, k5, eq_true k11, k4, k4']
      · have hb := hb k5 k11
        by_cases k4 : k < 4
        · have hc := hc k4
          have k4' : ¬ 4 ≤ k := by omega
          simp [h10, h9, h11, eq_false s0, eq_false z, n31, n32, n33, eq_true nm0, ha, k5, k11, hb, k4, k4', hc]
        · have k4' : 4 ≤ k := by omega
          simp [h10, h9, h11, eq_false s0, eq_false z, n31, n32, n33, eq_true nm0, ha, k5, k11, hb, k4, k4']
  · by_cases k5 : k = 5
    · have k4 : ¬ k < 4 := by omega
      have k4' : 4 ≤ k := by omega
      simp [h10, h9, h11, eq_false s0, eq_false z, n31, n32, n33, eq_false nm0, eq_true k5, k4, k4']
    · by_cases k11 : k = 11
      · have k4 : ¬ k < 4 := by omega
        have k4' : 4 ≤ k := by omega
        simp [h10, h9, h11, eq_false s0, eq_false z, n31, n32, n33, eq_false nm0, k5, eq_true k11, k4, k4']
      · have hb := hb k5 k11
        by_cases k4 : k < 4
        · have hc := hc k4
          have k4' : ¬ 4 ≤ k := by omega
          simp [h10, h9, h11, eq_false s0, eq_false z, n31, n32, n33, eq_false nm0, k5, k11, hb, k4, k4', hc]
        · have k4' : 4 ≤ k := by omega
          simp [h10, h9, h11, eq_false s0, eq_false z, n31, n32, n33, eq_false nm0, k5, k11, hb, k4, k4']
theorem f7 (e : Ev) (s : List UInt8) (n : Int) : evE Dg 7 [eE e, .str s, .int .i64 n] = some (.bool true) := by
  have h10 := f10
  have h9 := f9 e
  have h11 := f11 e
  have ha := f11 { e with name := s }
  have hc := f11 { e with n := n }
  have hb := f11t e s
  rw [eE'] at *
  cases hs : smB e with
  | false =>
    rw [hs] at h9
    refine evE_intro 1 D7 rfl ?_
    unfold c7
    simp [h10, h9]
  | true =>
    rw [hs] at h9
    by_cases hx : errV e = 0
    · have hb := hb hx
      rw [hx] at h11
      by_cases s0 : s = []
      · subst s0
        refine evE_intro 1 D7 rfl ?_
        unfold c7
        simp [h10, h9, h11]
      · by_cases n0 : n = 0
        · subst n0
          refine evE_intro 1 D7 rfl ?_
          unfold c7
          simp [h10, h9, h11, s0]
        · refine f7_in _ _ _ _ _ _ _ _ s0 n0 h9 h11 (fun h0 => ?_) (fun h5 h11' => hb (by simp [kD, h5, h11'])) (fun h4 => ?_)
          · rw [err_name hx h0 s0] at ha
            exact ha
          · rw [err_num hx (by simp [kB]; omega) n0] at hc
            exact hc
    · generalize errV e = x at *
      refine evE_intro 1 D7 rfl ?_
      unfold c7
      simp [h10, h9, h11, hx]
theorem in_texts {d : Nat} {ps : List PV} (h : HT Tryd.prog (d + 2) 23 ps) : ∃ l : List (List UInt8), ps = [.sl false 1 (tR l)] := by
  obtain ⟨l, h1, h2, h3⟩ := argT_rows (f := fun t => [.str t]) (Q := fun _ => True) Tryd.underlying23 (c := 1) (by kernel_rfl) (fun r hr => by
    obtain ⟨t, rfl, _⟩ := ht_string Tryd.underlying9 hr
    exact ⟨t, rfl, trivial⟩) h
  exact ⟨l, h1⟩
theorem in_ev0 {d : Nat} {ps : List PV} (h : HT Tryd.prog (d + 4) 25 ps) : ∃ e : Ev, ps = eC e := by
  obtain ⟨q0, r0, rfl, h0, h⟩ := htf_cons (ht_struct Tryd.underlying25 h)
  obtain ⟨q1, r1, rfl, h1, h⟩ := htf_cons h
  obtain ⟨q2, r2, rfl, h2, h⟩ := htf_cons h
  obtain ⟨q3, r3, rfl, h3, h⟩ := htf_cons h
  obtain ⟨q4, r4, rfl, h4, h⟩ := htf_cons h
  obtain ⟨q5, r5, rfl, h5, h⟩ := htf_cons h
  obtain rfl := htf_nil h
  obtain ⟨i0, rfl, _⟩ := ht_int Tryd.underlying3 h0
  obtain ⟨i1, rfl, _⟩ := ht_int Tryd.underlying22 h1
  obtain ⟨s, rfl, _⟩ := ht_string Tryd.underlying9 h2
  obtain ⟨i3, rfl, _⟩ := ht_int Tryd.underlying3 h3
  obtain ⟨i4, rfl, _⟩ := ht_int Tryd.underlying3 h4
  obtain ⟨l, rfl⟩ := in_texts h5
  exact ⟨⟨i0, i1, s, i3, i4, l⟩, rfl⟩
theorem in_ev {d : Nat} {p : PV} (h : ArgT Tryd.prog (d + 6) 25 p) : ∃ e : Ev, p = eE e := by
  obtain ⟨ps, rfl, h2⟩ := argT_struct Tryd.underlying25 h
  obtain ⟨e, rfl⟩ := in_ev0 h2
  exact ⟨e, rfl⟩
theorem law3 (ps : List PV) (h : ArgL Tryd.prog 12 [25] ps) : evE Dg 3 ps = some (.bool true) := by
  obtain ⟨p, rfl, h1⟩ := argL1 h
  obtain ⟨e, rfl⟩ := in_ev h1
  exact f3 e
theorem law7 (ps : List PV) (h : ArgL Tryd.prog 12 [25, 9, 3] ps) : evE Dg 7 ps = some (.bool true) := by
  obtain ⟨p, q, r, rfl, h1, h2, h3⟩ := argL3 h
  obtain ⟨e, rfl⟩ := in_ev h1
  obtain ⟨s, rfl, _⟩ := argT_string Tryd.underlying9 h2
  obtain ⟨n, rfl, _⟩ := argT_int Tryd.underlying3 h3
  exact f7 e s n
end Go.Proofs.YtidkdiooempkpaaDoor
