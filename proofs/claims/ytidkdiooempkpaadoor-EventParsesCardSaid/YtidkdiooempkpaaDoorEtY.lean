/- event: the reference's read of any words, and of an event's; Parse of both (written by mkEtY.py). -/
-- LATT
import Derived.Test.YtidkdiooempkpaaDoorEtXX
import Derived.Test.YtidkdiooempkpaaDoorEtV
namespace Go.Proofs.YtidkdiooempkpaaDoor
open Go Go.RowKit Go.Lib
attribute [local simp] evCode evOps evOne evOp evPur evEff evPur.chunks fillP AOp.isEff AO.ev putP PV.cells PV.leaf getB getM mapE iterE keyC mapRows mfind eq1 eqL scal binP unP minP maxP foldP PV.lt PV.lt.ltL endP expoAll expoG expo expo.expoL frIds frIds.frIdsL nodupN kill cls clsFuel resO RV.get loadP evC_p evC_s endS endT rowsOf callP thinL unfr unfr.unfrL PV.noMem PV.noMem.noMemL optI mapO norm trimT trimB forget hasN blksLt List.set softChk softGo softRd effTg tgOf chgN sameB PV.same PV.same.sameL PV.same.sameLL rdP
set_option linter.unusedVariables false
set_option linter.unusedSimpArgs false
set_option maxHeartbeats 4000000
set_option maxRecDepth 100000

theorem kOf_range (w : List UInt8) : kOf w = 0 ∨ (¬ kOf w < 1 ∧ ¬ 12 < kOf w) := by
  unfold kOf
  repeat' split
  all_goals first | exact .inl rfl | exact .inr (by decide)
theorem kOf_nil : kOf [] = 0 := by decide
theorem f39_ex (x : Bool) (W : List (List UInt8)) (h1 : 1 ≤ W.length) (hW : W.length ≤ 1000000000) (hl : ∀ i, (wAt W i).length ≤ 1000000) :
    ∃ q e, (q = true → e.st = []) ∧ evE Dg 39 [.sl x 1 (tR W)] = some (eO q e) := by
  obtain ⟨k, hk⟩ := ex_eq (kOf (wAt W 1))
  rcases kOf_range (wAt W 1) with h0 | ⟨k1, k2⟩
  · rw [hk] at h0
    subst h0
    exact ⟨true, ⟨pV (wAt W 0), 0, [], 0, 0, []⟩, fun _ => rfl, f39_z x W 0 hW hk (by decide) (by decide) (by decide) (by decide) h1⟩
  · rw [hk] at k1 k2
    have h2 : 2 ≤ W.length := by
      apply Decidable.byContradiction
      intro hn
      have : wAt W 1 = [] := by unfold wAt; rw [List.getElem?_eq_none (by omega)]; rfl
      rw [this, kOf_nil] at hk
      omega
    rcases combo k1 k2 with ⟨a, b, c, d⟩ | ⟨a, b, c, d⟩ | ⟨a, b, c, d⟩ | ⟨a, b, c, d⟩ | ⟨a, b, c, d⟩ | ⟨a, b, c, d⟩ | ⟨a, b, c, d⟩
    · rcases (show W.length = 2 ∨ 3 ≤ W.length by omega) with hL | hL
      · exact ⟨true, ⟨pV (wAt W 0), k, [], 0, 0, []⟩, fun _ => rfl, f39_0_0 x W k hW hk a b c d hL⟩
      · exact ⟨true, ⟨pV (wAt W 0), k, wAt W 2, 0, 0, []⟩, fun _ => rfl, f39_0_1 x W k hW hk a b c d hL⟩
    · exact ⟨true, ⟨pV (wAt W 0), k, [], 0, 0, []⟩, fun _ => rfl, f39_1_0 x W k hW hk a b c d (by omega)⟩
    · rcases (show W.length = 2 ∨ W.length = 3 ∨ 4 ≤ W.length by omega) with hL | hL | hL
      · exact ⟨true, ⟨pV (wAt W 0), k, [], 0, 0, []⟩, fun _ => rfl, f39_2_0 x W k hW hk a b c d hL⟩
      · exact ⟨true, ⟨pV (wAt W 0), k, wAt W 2, 0, 0, []⟩, fun _ => rfl, f39_2_1 x W k hW hk a b c d hL⟩
      · exact ⟨true, ⟨pV (wAt W 0), k, wAt W 2, pV (wAt W 3), 0, []⟩, fun _ => rfl, f39_2_2 x W k hW hk a b c d hL⟩
    · rcases (show W.length = 2 ∨ W.length = 3 ∨ 4 ≤ W.length by omega) with hL | hL | hL
      · exact ⟨true, ⟨pV (wAt W 0), k, [], 0, 0, []⟩, fun _ => rfl, f39_3_0 x W k hW hk a b c d hL⟩
      · exact ⟨true, ⟨pV (wAt W 0), k, [], pV (wAt W 2), 0, []⟩, fun _ => rfl, f39_3_1 x W k hW hk a b c d hL⟩
      · by_cases hE : wAt W 3 = [59]
        · exact ⟨true, ⟨pV (wAt W 0), k, [], pV (wAt W 2), 0, []⟩, fun _ => rfl, f39_3_2e x W k hW hk a b c d hL hE⟩
        · exact ⟨false, ⟨pV (wAt W 0), k, [], pV (wAt W 2), 0, cutB 59 (wAt W 3)⟩, (fun h => absurd h (by decide)), f39_3_2 x W k hW hk a b c d hL hE (hl 3)⟩
    · rcases (show W.length = 2 ∨ 3 ≤ W.length by omega) with hL | hL
      · exact ⟨true, ⟨pV (wAt W 0), k, [], 0, 0, []⟩, fun _ => rfl, f39_4_0 x W k hW hk a b c d hL⟩
      · exact ⟨true, ⟨pV (wAt W 0), k, [], pV (wAt W 2), 0, []⟩, fun _ => rfl, f39_4_1 x W k hW hk a b c d hL⟩
    · rcases (show W.length = 2 ∨ W.length = 3 ∨ 4 ≤ W.length by omega) with hL | hL | hL
      · exact ⟨true, ⟨pV (wAt W 0), k, [], 0, 0, []⟩, fun _ => rfl, f39_5_0 x W k hW hk a b c d hL⟩
      · exact ⟨true, ⟨pV (wAt W 0), k, [], pV (wAt W 2), 0, []⟩, fun _ => rfl, f39_5_1 x W k hW hk a b c d hL⟩
      · exact ⟨true, ⟨pV (wAt W 0), k, [], pV (wAt W 2), pV (wAt W 3), []⟩, fun _ => rfl, f39_5_2 x W k hW hk a b c d hL⟩
    · rcases (show W.length = 2 ∨ W.length = 3 ∨ W.length = 4 ∨ 5 ≤ W.length by omega) with hL | hL | hL | hL
      · exact ⟨true, ⟨pV (wAt W 0), k, [], 0, 0, []⟩, fun _ => rfl, f39_6_0 x W k hW hk a b c d hL⟩
      · exact ⟨true, ⟨pV (wAt W 0), k, [], pV (wAt W 2), 0, []⟩, fun _ => rfl, f39_6_1 x W k hW hk a b c d hL⟩
      · exact ⟨true, ⟨pV (wAt W 0), k, [], pV (wAt W 2), pV (wAt W 3), []⟩, fun _ => rfl, f39_6_2 x W k hW hk a b c d hL⟩
      · by_cases hE : wAt W 4 = [59]
        · exact ⟨true, ⟨pV (wAt W 0), k, [], pV (wAt W 2), pV (wAt W 3), []⟩, fun _ => rfl, f39_6_3e x W k hW hk a b c d hL hE⟩
        · exact ⟨false, ⟨pV (wAt W 0), k, [], pV (wAt W 2), pV (wAt W 3), cutB 59 (wAt W 4)⟩, (fun h => absurd h (by decide)), f39_6_3 x W k hW hk a b c d hL hE (hl 4)⟩
theorem f39_ok {e : Ev} (hv : errV e = 0) (x : Bool) : ∃ q, (q = true → e.st = []) ∧ evE Dg 39 [.sl x 1 (tR (wdE e))] = some (eO q e) := by
  have v := val_of hv
  have pa := (pV_itoa (inB_of (show -1000000000000000 ≤ e.at_ ∧ e.at_ ≤ 1000000000000000 by have := v.at0; have := v.at1; omega))).1
  have pn := (pV_itoa (inB_of v.nb)).1
  have pm := (pV_itoa (inB_of (show -1000000000000000 ≤ e.m ∧ e.m ≤ 1000000000000000 by have := v.mb; omega))).1
  have w0 : wAt (wdE e) 0 = itoa e.at_ := rfl
  have w1 : wAt (wdE e) 1 = kW e.k := rfl
  have hk : kOf (wAt (wdE e) 1) = e.k := by rw [w1]; exact kOf_kW v.k1 v.k2
  have hW : (wdE e).length ≤ 1000000000 := by have := wd_len e; omega
  have f2 := v.frames.2
  rcases combo v.k1 v.k2 with ⟨a, b, c, d⟩ | ⟨a, b, c, d⟩ | ⟨a, b, c, d⟩ | ⟨a, b, c, d⟩ | ⟨a, b, c, d⟩ | ⟨a, b, c, d⟩ | ⟨a, b, c, d⟩
  · have hu : uM (kC e.k) e.k e.n = false := by rw [c]; rfl
    have ew : wdE e = [itoa e.at_, kW e.k, e.name] := by unfold wdE; rw [hu, a, b, d]; rfl
    have hL : (wdE e).length = 3 := by rw [ew]; rfl
    have w2 : wAt (wdE e) 2 = e.name := by rw [ew]; rfl
    have h := f39_0_1 x (wdE e) e.k hW hk a b c d (by rw [hL]; decide)
    rw [w0, pa, w2] at h
    refine ⟨true, fun _ => v.st0 d, ?_⟩
    rw [h]
    simp only [eO, if_true, eN, v.nn0 b, v.m0 hu]
  · have hu : uM (kC e.k) e.k e.n = false := by rw [c]; rfl
    have ew : wdE e = [itoa e.at_, kW e.k] := by unfold wdE; rw [hu, a, b, d]; rfl
    have hL : (wdE e).length = 2 := by rw [ew]; rfl
    have h := f39_1_0 x (wdE e) e.k hW hk a b c d (by rw [hL]; decide)
    rw [w0, pa] at h
    refine ⟨true, fun _ => v.st0 d, ?_⟩
    rw [h]
    simp only [eO, if_true, eN, v.nm0 a, v.nn0 b, v.m0 hu]
  · have hu : uM (kC e.k) e.k e.n = false := by rw [c]; rfl
    have ew : wdE e = [itoa e.at_, kW e.k, e.name, itoa e.n] := by unfold wdE; rw [hu, a, b, d]; rfl
    have hL : (wdE e).length = 4 := by rw [ew]; rfl
    have w2 : wAt (wdE e) 2 = e.name := by rw [ew]; rfl
    have w3 : wAt (wdE e) 3 = itoa e.n := by rw [ew]; rfl
    have h := f39_2_2 x (wdE e) e.k hW hk a b c d (by rw [hL]; decide)
    rw [w0, pa, w2, w3, pn] at h
    refine ⟨true, fun _ => v.st0 d, ?_⟩
    rw [h]
    simp only [eO, if_true, eN, v.m0 hu]
  · have hu : uM (kC e.k) e.k e.n = false := by rw [c]; rfl
    have ew : wdE e = [itoa e.at_, kW e.k, itoa e.n, stT e.st] := by unfold wdE; rw [hu, a, b, d]; rfl
    have hL : (wdE e).length = 4 := by rw [ew]; rfl
    have w2 : wAt (wdE e) 2 = itoa e.n := by rw [ew]; rfl
    have w3 : wAt (wdE e) 3 = stT e.st := by rw [ew]; rfl
    by_cases hst : e.st = []
    · have h := f39_3_2e x (wdE e) e.k hW hk a b c d (by rw [hL]; decide) (by rw [w3]; exact (stT_nil f2).2 hst)
      rw [w0, pa, w2, pn] at h
      refine ⟨true, fun _ => hst, ?_⟩
      rw [h]
      simp only [eO, if_true, eN, v.nm0 a, v.m0 hu]
    · have h := f39_3_2 x (wdE e) e.k hW hk a b c d (by rw [hL]; decide) (by rw [w3]; exact fun hh => hst ((stT_nil f2).1 hh)) (by rw [w3]; have := (stT_len f2 v.frames.1).2; omega)
      have hcc : cutB 59 (stT e.st) = e.st := by unfold stT; rw [if_neg hst]; exact cut_join 59 e.st hst (fun s hs x hx => (name_no (f2 s hs) x hx).2)
      rw [w0, pa, w2, pn, w3, hcc] at h
      refine ⟨false, (fun hh => absurd hh (by decide)), ?_⟩
      rw [h]
      simp only [eO, Bool.false_eq_true, if_false, eX, v.nm0 a, v.m0 hu]
  · have hu : uM (kC e.k) e.k e.n = false := by rw [c]; rfl
    have ew : wdE e = [itoa e.at_, kW e.k, itoa e.n] := by unfold wdE; rw [hu, a, b, d]; rfl
    have hL : (wdE e).length = 3 := by rw [ew]; rfl
    have w2 : wAt (wdE e) 2 = itoa e.n := by rw [ew]; rfl
    have h := f39_4_1 x (wdE e) e.k hW hk a b c d (by rw [hL]; decide)
    rw [w0, pa, w2, pn] at h
    refine ⟨true, fun _ => v.st0 d, ?_⟩
    rw [h]
    simp only [eO, if_true, eN, v.nm0 a, v.m0 hu]
  · cases hu0 : uM (kC e.k) e.k e.n with
    | false =>
      have hu : uM (kC e.k) e.k e.n = false := hu0
      have ew : wdE e = [itoa e.at_, kW e.k, itoa e.n] := by unfold wdE; rw [hu, a, b, d]; rfl
      have hL : (wdE e).length = 3 := by rw [ew]; rfl
      have w2 : wAt (wdE e) 2 = itoa e.n := by rw [ew]; rfl
      have h := f39_5_1 x (wdE e) e.k hW hk a b c d hL
      rw [w0, pa, w2, pn] at h
      refine ⟨true, fun _ => v.st0 d, ?_⟩
      rw [h]
      simp only [eO, if_true, eN, v.nm0 a, v.m0 hu]
    | true =>
      have hu : uM (kC e.k) e.k e.n = true := hu0
      have ew : wdE e = [itoa e.at_, kW e.k, itoa e.n, itoa e.m] := by unfold wdE; rw [hu, a, b, d]; rfl
      have hL : (wdE e).length = 4 := by rw [ew]; rfl
      have w2 : wAt (wdE e) 2 = itoa e.n := by rw [ew]; rfl
      have w3 : wAt (wdE e) 3 = itoa e.m := by rw [ew]; rfl
      have h := f39_5_2 x (wdE e) e.k hW hk a b c d (by rw [hL]; decide)
      rw [w0, pa, w2, pn, w3, pm] at h
      refine ⟨true, fun _ => v.st0 d, ?_⟩
      rw [h]
      simp only [eO, if_true, eN, v.nm0 a]
  · have hu : uM (kC e.k) e.k e.n = true := by rw [c]; unfold uM; rw [decide_eq_false (fun h => by rw [h] at d; exact absurd d (by decide))]; rfl
    have ew : wdE e = [itoa e.at_, kW e.k, itoa e.n, itoa e.m, stT e.st] := by unfold wdE; rw [hu, a, b, d]; rfl
    have hL : (wdE e).length = 5 := by rw [ew]; rfl
    have w2 : wAt (wdE e) 2 = itoa e.n := by rw [ew]; rfl
    have w3 : wAt (wdE e) 3 = itoa e.m := by rw [ew]; rfl
    have w4 : wAt (wdE e) 4 = stT e.st := by rw [ew]; rfl
    by_cases hst : e.st = []
    · have h := f39_6_3e x (wdE e) e.k hW hk a b c d (by rw [hL]; decide) (by rw [w4]; exact (stT_nil f2).2 hst)
      rw [w0, pa, w2, pn, w3, pm] at h
      refine ⟨true, fun _ => hst, ?_⟩
      rw [h]
      simp only [eO, if_true, eN, v.nm0 a]
    · have h := f39_6_3 x (wdE e) e.k hW hk a b c d (by rw [hL]; decide) (by rw [w4]; exact fun hh => hst ((stT_nil f2).1 hh)) (by rw [w4]; have := (stT_len f2 v.frames.1).2; omega)
      have hcc : cutB 59 (stT e.st) = e.st := by unfold stT; rw [if_neg hst]; exact cut_join 59 e.st hst (fun s hs x hx => (name_no (f2 s hs) x hx).2)
      rw [w0, pa, w2, pn, w3, pm, w4, hcc] at h
      refine ⟨false, (fun hh => absurd hh (by decide)), ?_⟩
      rw [h]
      simp only [eO, Bool.false_eq_true, if_false, eX, v.nm0 a]
theorem eO_text14 (q : Bool) (e : Ev) (h : q = true → e.st = []) : evE Dg 14 [eO q e] = some (.str (txE e)) := by
  cases q with
  | true => exact f14N e (h rfl)
  | false => exact f14a e
def zE : PV := .agg [.int .i64 0, .int .i64 0, .str [], .int .i64 0, .int .i64 0, .nilS]
theorem cut_len (l : List UInt8) : 1 ≤ (cutB 32 l).length ∧ (cutB 32 l).length ≤ l.length + 1 ∧ ∀ i, (wAt (cutB 32 l) i).length ≤ l.length := by
  have h1 := cutB_cnt 32 l
  have h2 := cntB_le 32 l
  refine ⟨by omega, by omega, fun i => wAt_le (fun s hs => ?_) i⟩
  have := mem_join_le [32] _ s hs
  rw [cutB_join] at this
  exact this
theorem eO_inj {q q' : Bool} {e e' : Ev} (h1 : q = true → e.st = []) (h2 : q' = true → e'.st = []) (h : eO q e = eO q' e') : e = e' := by
  obtain ⟨a, k, nm, n, m, st⟩ := e
  obtain ⟨a', k', nm', n', m', st'⟩ := e'
  have inj : ∀ {u v : List (List UInt8)}, tR u = tR v → u = v := fun {u v} h => by
    have e1 := strsOf_tR u
    rw [h, strsOf_tR v] at e1
    exact (Option.some.inj e1).symm
  cases q <;> cases q' <;> simp only [eO, eN, eX, if_true, if_false, Bool.false_eq_true, PV.agg.injEq, List.cons.injEq, PV.int.injEq, PV.str.injEq, and_true, true_and, PV.sl.injEq, reduceCtorEq, and_false] at h
  · obtain ⟨rfl, rfl, rfl, rfl, rfl, hs⟩ := h
    rw [inj hs]
  · obtain ⟨rfl, rfl, rfl, rfl, rfl⟩ := h
    have e1 := h1 rfl
    have e2 := h2 rfl
    simp only at e1 e2
    rw [e1, e2]
/-- the texts of events -/
def IsT (s : List UInt8) : Prop := ∃ e, errV e = 0 ∧ txE e = s
theorem tx_val {e : Ev} {s : List UInt8} (h : txE e = s) (hs : ¬ s = []) : errV e = 0 := by
  apply Decidable.byContradiction
  intro hn
  unfold txE at h
  rw [if_neg hn] at h
  exact hs h.symm
theorem cut_tx {e : Ev} (hv : errV e = 0) : cutB 32 (txE e) = wdE e := by
  have v := val_of hv
  unfold txE
  rw [if_pos hv]
  exact cut_join 32 (wdE e) (by unfold wdE; simp) (fun s hs => (v.words s hs).1)
theorem f17_long (s : List UInt8) (h : 2000 < s.length) : evE Dg 17 [.str s] = some (.tup [zE, .int .i64 7]) := by
  have h1 : (2000 : Int) < s.length := by omega
  refine evE_intro 1 D17 rfl ?_
  unfold c17
  simp [h, h1, zE]
theorem f15_long (s : List UInt8) (h : 2000 < s.length) : evE Dg 15 [.str s] = some (.tup [zE, .int .i64 7]) := by
  have h1 : (2000 : Int) < s.length := by omega
  refine evE_intro 1 D15 rfl ?_
  unfold c15
  simp [h, h1, zE]
theorem f17_nil : evE Dg 17 [.str []] = some (.tup [zE, .int .i64 10]) := by
  obtain ⟨q, e, h1, h2⟩ := f39_ex false [[]] (by simp) (by simp) (fun i => by have := wAt_le (W := [[]]) (B := 0) (fun s hs => by simp at hs; subst hs; simp) i; omega)
  have h40 := f40 32 [] (by simp)
  have hc : cutB 32 [] = [[]] := rfl
  rw [hc] at h40
  have u8 : (((32 : UInt8).toNat : Int)) = 32 := rfl
  rw [u8] at h40
  obtain ⟨z, hz, ht⟩ := eO_agg q e
  rw [hz] at h2
  rcases ht with rfl | ⟨y, rfl⟩
  · refine evE_intro 1 D17 rfl ?_
    unfold c17
    simp [h40, h2, zE]
  · refine evE_intro 1 D17 rfl ?_
    unfold c17
    simp [h40, h2, zE]
theorem f17_ok {e : Ev} (hv : errV e = 0) (h0 : ¬ txE e = []) : ∃ q, (q = true → e.st = []) ∧ evE Dg 17 [.str (txE e)] = some (.tup [eO q e, .int .i64 0]) := by
  obtain ⟨q, hq, h39⟩ := f39_ok hv false
  refine ⟨q, hq, ?_⟩
  have hl := tx_len hv
  have hl1 : ¬ (2000 : Int) < ((txE e).length : Int) := by omega
  have h40 := f40 32 (txE e) (by omega)
  rw [cut_tx hv] at h40
  have u8 : (((32 : UInt8).toNat : Int)) = 32 := rfl
  rw [u8] at h40
  have h14 := eO_text14 q e hq
  obtain ⟨s, hs, ht⟩ := eO_agg q e
  rw [hs] at h39 h14 ⊢
  generalize txE e = t at *
  rcases ht with rfl | ⟨y, rfl⟩
  · refine evE_intro 1 D17 rfl ?_
    unfold c17
    simp [hl, hl1, h40, h39, h14, h0]
  · refine evE_intro 1 D17 rfl ?_
    unfold c17
    simp [hl, hl1, h40, h39, h14, h0]
theorem f17_no (s : List UInt8) (hl : s.length ≤ 2000) (h0 : ¬ s = []) (hn : ¬ IsT s) : evE Dg 17 [.str s] = some (.tup [zE, .int .i64 10]) := by
  have hl1 : ¬ (2000 : Int) < (s.length : Int) := by omega
  obtain ⟨c1, c2, c3⟩ := cut_len s
  obtain ⟨q, e, hq, h39⟩ := f39_ex false (cutB 32 s) c1 (by omega) (fun i => by have := c3 i; omega)
  have h40 := f40 32 s (by omega)
  have u8 : (((32 : UInt8).toNat : Int)) = 32 := rfl
  rw [u8] at h40
  have h14 := eO_text14 q e hq
  have hne : ¬ txE e = s := fun h => hn ⟨e, tx_val h h0, h⟩
  obtain ⟨z, hz, ht⟩ := eO_agg q e
  rw [hz] at h39 h14
  generalize txE e = t at *
  generalize cutB 32 s = W at *
  rcases ht with rfl | ⟨y, rfl⟩
  · refine evE_intro 1 D17 rfl ?_
    unfold c17
    simp [hl, hl1, h40, h39, h14, h0, hne, zE]
  · refine evE_intro 1 D17 rfl ?_
    unfold c17
    simp [hl, hl1, h40, h39, h14, h0, hne, zE]
theorem f15_no (hlim : 2000 ≤ lim) (s : List UInt8) (hl : s.length ≤ 2000) (h0 : ¬ s = []) (hn : ¬ IsT s) : evE Dg 15 [.str s] = some (.tup [zE, .int .i64 10]) := by
  have hl1 : ¬ (2000 : Int) < (s.length : Int) := by omega
  obtain ⟨c1, c2, c3⟩ := cut_len s
  have h37 := f37 32 s (by omega)
  obtain ⟨k, hk⟩ := ex_eq (kOf (wAt (cutB 32 s) 1))
  rcases kOf_range (wAt (cutB 32 s) 1) with k0 | ⟨k1, k2⟩
  · have h36 := f36_no false (cutB 32 s) (by omega) (by have := c3 0; omega) k0
    generalize cutB 32 s = W at *
    refine evE_intro 1 D15 rfl ?_
    unfold c15
    simp [hl, hl1, h37, h36, zE]
  · rw [hk] at k1 k2
    have h36 := f36_yes false (cutB 32 s) k (by omega) (fun i _ => by have := c3 i; omega) (by have := c3 (i3 (cutB 32 s) k); omega) hk k1 k2
    have hst : rNil (cutB 32 s) k = true → (rE (cutB 32 s) k).st = [] := by
      intro h
      unfold rNil at h
      show rS (cutB 32 s) k = []
      unfold rS
      cases hd : kD k with
      | true => rw [hd] at h; simp only [Bool.not_true, Bool.false_or, decide_eq_true_eq] at h; rw [if_pos rfl, if_pos h]
      | false => rw [if_neg (by decide)]
    have h13 := eO_text _ _ hst
    have hne : ¬ txE (rE (cutB 32 s) k) = s := fun h => hn ⟨_, tx_val h h0, h⟩
    obtain ⟨z, hz, ht⟩ := eO_agg (rNil (cutB 32 s) k) (rE (cutB 32 s) k)
    rw [hz] at h36 h13
    generalize rE (cutB 32 s) k = e at *
    generalize txE e = t at *
    generalize cutB 32 s = W at *
    rcases ht with rfl | ⟨y, rfl⟩
    · refine evE_intro 1 D15 rfl ?_
      unfold c15
      simp [hl, hl1, h37, h36, h13, hne, zE]
    · refine evE_intro 1 D15 rfl ?_
      unfold c15
      simp [hl, hl1, h37, h36, h13, hne, zE]
theorem same_zE : evE Dg 16 [zE, zE] = some (.bool true) := evE_of (n := 20) (by kernel_rfl)
theorem eO_same2 (q q' : Bool) (e : Ev) (h : q = true → e.st = []) (h' : q' = true → e.st = []) (hl : e.st.length ≤ 1000000000000) : evE Dg 16 [eO q e, eO q' e] = some (.bool true) := by
  have h1 : evE Dg 38 [.nilS, .sl false 1 []] = some (.bool true) := evE_of (n := 10) (by kernel_rfl)
  have h2 : evE Dg 38 [.sl false 1 [], .nilS] = some (.bool true) := evE_of (n := 10) (by kernel_rfl)
  have h3 : evE Dg 38 [.nilS, .nilS] = some (.bool true) := evE_of (n := 10) (by kernel_rfl)
  cases q with
  | true =>
    have hst := h rfl
    obtain ⟨a, k, nm, n, m, st⟩ := e
    simp only at hst
    subst hst
    cases q' with
    | true =>
      show evE Dg 16 [eN _, eN _] = _
      unfold eN
      refine evE_intro 1 D16 rfl ?_
      unfold c16
      simp [h3]
    | false =>
      show evE Dg 16 [eN _, eX false _] = _
      unfold eN eX
      simp only [tR, List.map_nil]
      refine evE_intro 1 D16 rfl ?_
      unfold c16
      simp [h1]
  | false =>
    cases q' with
    | true =>
      have hst := h' rfl
      obtain ⟨a, k, nm, n, m, st⟩ := e
      simp only at hst
      subst hst
      show evE Dg 16 [eX false _, eN _] = _
      unfold eN eX
      simp only [tR, List.map_nil]
      refine evE_intro 1 D16 rfl ?_
      unfold c16
      simp [h2]
    | false =>
      have := f16 false false e e hl
      rw [(smE_iff e e).2 rfl] at this
      exact this
theorem eO_chk (q : Bool) (e : Ev) (h : q = true → e.st = []) : evE Dg 11 [eO q e] = some (.int .i64 (errV e)) := by
  cases q with
  | true => exact f11N e (h rfl)
  | false => exact f11 e
theorem f5_rej (s : List UInt8) (c : Int) (hc : c = 7 ∨ c = 10) (hl : s.length ≤ 2100) (h15 : evE Dg 15 [.str s] = some (.tup [zE, .int .i64 c])) (h17 : evE Dg 17 [.str s] = some (.tup [zE, .int .i64 c])) : evE Dg 5 [.str s] = some (.bool true) := by
  have h10 := f10
  have hz := same_zE
  have hl1 : ¬ (2100 : Int) < (s.length : Int) := by omega
  unfold zE at *
  rcases hc with rfl | rfl
  · refine evE_intro 1 D5 rfl ?_
    unfold c5
    simp [h10, hl, hl1, h15, h17, hz]
  · refine evE_intro 1 D5 rfl ?_
    unfold c5
    simp [h10, hl, hl1, h15, h17, hz]
theorem f5 (hlim : 2000 ≤ lim) (s : List UInt8) : evE Dg 5 [.str s] = some (.bool true) := by
  have h10 := f10
  by_cases hl : s.length ≤ 2100
  · by_cases h2 : 2000 < s.length
    · exact f5_rej s 7 (.inl rfl) hl (f15_long s h2) (f17_long s h2)
    · by_cases h0 : s = []
      · subst h0
        exact f5_rej [] 10 (.inr rfl) hl f15_nil f17_nil
      · by_cases hn : IsT s
        · obtain ⟨e, hv, he⟩ := hn
          have h15 := f15_ok hv
          rw [he] at h15
          obtain ⟨q', hq', h17⟩ := f17_ok hv (by rw [he]; exact h0)
          rw [he] at h17
          have hq := nil_st hv
          obtain ⟨q, hqq⟩ := ex_eq (!kD e.k || decide (e.st = []))
          rw [hqq] at h15 hq
          have h16 := eO_same2 q q' e hq hq' (by have := (val_of hv).frames.1; omega)
          have h13 := eO_text q e hq
          have h11 := eO_chk q e hq
          rw [he] at h13
          rw [hv] at h11
          have hl1 : ¬ (2100 : Int) < (s.length : Int) := by omega
          obtain ⟨z, hz, ht⟩ := eO_agg q e
          obtain ⟨z', hz', ht'⟩ := eO_agg q' e
          rw [hz] at h15 h16 h13 h11
          rw [hz'] at h17 h16
          rcases ht with rfl | ⟨y, rfl⟩ <;> rcases ht' with rfl | ⟨y', rfl⟩
          all_goals
            refine evE_intro 1 D5 rfl ?_
            unfold c5
            simp [h10, hl, hl1, h15, h17, h16, h13, h11]
        · exact f5_rej s 10 (.inr rfl) hl (f15_no hlim s (by omega) h0 hn) (f17_no s (by omega) h0 hn)
  · have hl1 : (2100 : Int) < (s.length : Int) := by omega
    have hl2 : 2100 < s.length := by omega
    refine evE_intro 1 D5 rfl ?_
    unfold c5
    simp [h10, hl1, hl2]
end Go.Proofs.YtidkdiooempkpaaDoor
