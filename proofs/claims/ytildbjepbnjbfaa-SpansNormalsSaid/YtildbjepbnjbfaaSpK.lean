/- spans: the reference's combine, and what it gives. -/
import Derived.Test.YtildbjepbnjbfaaSpJ
namespace Go.Proofs.Ytildbjepbnjbfaa
open Go Go.RowKit
set_option linter.unusedVariables false
set_option linter.unusedSimpArgs false
set_option maxHeartbeats 8000000

def hbop (op : Int) (A B : Bool) : Bool := if op = 1 then A || B else if op = 2 then A && B else A && !B
set_option maxRecDepth 100000 in
theorem f38 (pa pb : PV) (op : Int) (ho : op = 1 ∨ op = 2 ∨ op = 3) (t : Int) (A B : Bool) (la : ∀ k, PV.lt k pa = true) (lb : ∀ k, PV.lt k pb = true)
    (c1 : evE Dg 27 [pa, .int .i64 t] = some (.bool A)) (c2 : evE Dg 27 [pb, .int .i64 t] = some (.bool B)) : evE Dg 38 [pa, pb, .int .i64 op, .int .i64 t] = some (.bool (hbop op A B)) := by
  refine evE_intro 3 D38 rfl ?_
  unfold c38
  rcases ho with rfl | rfl | rfl <;> cases A <;> cases B <;> simp [evCode, evOps, evOne, evOp, evPur, evEff, evPur.chunks, fillP, AOp.isEff, AO.ev, putP, PV.cells, PV.leaf, getB, getM, mapE, keyC, mapRows, mfind, eq1, eqL, scal, binP, unP, minP, maxP, foldP, PV.lt, PV.lt.ltL, endP, expoAll, expo, expo.expoL, frIds, frIds.frIdsL, nodupN, kill, cls, clsFuel, resO, RV.get, loadP, evC_p, evC_s, endS, endT, rowsOf, callP, thinL, unfr, unfr.unfrL, PV.noMem, PV.noMem.noMemL, optI, mapO, norm, trimT, trimB, forget, hasN, blksLt, List.set, la, lb, c1, c2, hbop]

/-- times are alike between two ends that follow each other -/
theorem comb_spec (H : Int → Prop) (l : List Sp) (hH : ∀ t c, (∀ s ∈ l, vl s → ((s.1 ≤ t ∧ t < s.2) ↔ (s.1 ≤ c ∧ c < s.2))) → (H t ↔ H c)) (hin : ∀ t, H t → setOf t l) :
    Nrm (combF H [] (endsF [] l)) ∧ ∀ t, inS t (combF H [] (endsF [] l)) ↔ H t := by
  obtain ⟨e1, e2⟩ := endsF_spec l [] .nil
  simp only [List.not_mem_nil, false_or] at e2
  obtain ⟨a, b⟩ := combF_spec H (endsF [] l) [] ⟨by simp, .nil⟩ e1 (fun x hx => by
    obtain ⟨s, _, hv, h⟩ := (e2 x).1 hx
    unfold vl at hv
    omega) (by simp) (fun i c d t hc hd h1 h2 => by
    have hd' := (List.getElem?_eq_some_iff.1 hd)
    have hc' := (List.getElem?_eq_some_iff.1 hc)
    obtain ⟨hcl, hce⟩ := hc'
    obtain ⟨hdl, hde⟩ := hd'
    have sep : ∀ x ∈ endsF [] l, x ≤ c ∨ d ≤ x := by
      intro x hx
      obtain ⟨j, hj⟩ := List.getElem?_of_mem hx
      obtain ⟨hjl, hje⟩ := List.getElem?_eq_some_iff.1 hj
      have P := List.pairwise_iff_getElem.1 e1
      rcases Nat.lt_trichotomy j i with h | h | h
      · have := P j i hjl hcl h
        rw [hje, hce] at this
        omega
      · subst h
        rw [hce] at hje
        omega
      · rcases Nat.lt_or_ge (i + 1) j with h' | h'
        · have := P (i + 1) j hdl hjl h'
          rw [hje, hde] at this
          omega
        · obtain rfl : j = i + 1 := by omega
          rw [hde] at hje
          omega
    refine hH t c fun s hs hv => ?_
    have s1 := sep s.1 ((e2 _).2 ⟨s, hs, hv, .inl rfl⟩)
    have s2 := sep s.2 ((e2 _).2 ⟨s, hs, hv, .inr rfl⟩)
    omega)
  refine ⟨a, fun t => ?_⟩
  rw [b t]
  simp only [inS_nil, false_or]
  constructor
  · exact fun h => h.1
  · intro h
    obtain ⟨s, hs, hv, q1, q2⟩ := hin t h
    exact ⟨h, s.1, (e2 _).2 ⟨s, hs, hv, .inl rfl⟩, q1, s.2, (e2 _).2 ⟨s, hs, hv, .inr rfl⟩, q2⟩

def S31 (pa pb : PV) (op : Int) (cut : List Int) (u : Nat × List Sp) : St :=
  ⟨[pa, pb, .int .i64 op, .top, .top, .top, .top, .own 1 u.2.length 0 u.2.length, eI cut, .int .i64 u.1] ++ List.replicate 60 .top,
    [some ⟨0, 2, true, []⟩, some ⟨u.2.length, 2, true, spRows u.2.reverse⟩]⟩
theorem combF_pos {H : Int → Prop} {r : List Sp} {c d : Int} {l : List Int} (h : H c) : combF H r (c :: d :: l) = combF H (match r with | x :: r' => if x.2 = c then (x.1, d) :: r' else (c, d) :: x :: r' | [] => [(c, d)]) (d :: l) := by
  conv => lhs; unfold combF
  rw [if_pos h]
  cases r <;> rfl
theorem combF_neg {H : Int → Prop} {r : List Sp} {c d : Int} {l : List Int} (h : ¬ H c) : combF H r (c :: d :: l) = combF H r (d :: l) := by
  conv => lhs; unfold combF
  rw [if_neg h]
theorem combF_end {H : Int → Prop} {r : List Sp} : ∀ {l : List Int}, l.length ≤ 1 → combF H r l = r.reverse
  | [], _ => by unfold combF; rfl
  | [_], _ => by unfold combF; rfl
  | _ :: _ :: _, h => by simp at h
set_option maxRecDepth 100000 in
theorem loop31 (pa pb : PV) (op : Int) (cut : List Int) (hc : cut.length ≤ 1000) (H : Int → Prop) (la : ∀ k, PV.lt k pa = true) (lb : ∀ k, PV.lt k pb = true)
    (h38 : ∀ t, H t → evE Dg 38 [pa, pb, .int .i64 op, .int .i64 t] = some (.bool true)) (h38n : ∀ t, ¬ H t → evE Dg 38 [pa, pb, .int .i64 op, .int .i64 t] = some (.bool false))
    (E : Option Out) (s0 : St) (hE : evLoop (evCode (evC Dg) 2000 c31b0) [0, 1, 2, 7, 8, 9] 2 2000 s0 = E) (h0 : norm [0, 1, 2, 7, 8, 9] 2 s0 = S31 pa pb op cut (0, [])) :
    ∃ k r, cut.length ≤ k + 1 ∧ k ≤ cut.length ∧ r.reverse = combF H [] cut ∧ E = evCode (evC Dg) 2000 c31b0 (S31 pa pb op cut (k, r)) := by
  have e1 := inR_len cut
  have L := loop_stop (body := evCode (evC Dg) 2000 c31b0) (keep := [0, 1, 2, 7, 8, 9]) (n0 := 2) (fuel := 2000) (S31 pa pb op cut) (fun u => cut.length - u.1) (fun u => u.1 ≤ cut.length ∧ u.2.length ≤ u.1 ∧ combF H u.2 (cut.drop u.1) = combF H [] cut) (fun u => cut.length ≤ u.1 + 1)
    (by
      rintro ⟨k, r⟩ ⟨hk, hr, hR⟩ hs
      simp only at hk hr hR hs
      obtain ⟨c, hc1⟩ : ∃ c, cut[k]? = some c := ⟨_, List.getElem?_eq_getElem (by omega)⟩
      obtain ⟨d, hd1⟩ : ∃ d, cut[k + 1]? = some d := ⟨_, List.getElem?_eq_getElem (by omega)⟩
      have hdrop : cut.drop k = c :: cut.drop (k + 1) := by
        obtain ⟨q1, q2⟩ := List.getElem?_eq_some_iff.1 hc1
        rw [List.drop_eq_getElem_cons q1, q2]
      have hdrop' : cut.drop (k + 1) = d :: cut.drop (k + 2) := by
        obtain ⟨q1, q2⟩ := List.getElem?_eq_some_iff.1 hd1
        rw [List.drop_eq_getElem_cons q1, q2]
      rw [hdrop, hdrop'] at hR
      have rc := inR_get hc1
      have gc := inR_got hc1
      have rd := inR_get hd1
      have gd := inR_got hd1
      have hk1 : (k : Int) + 1 < cut.length := by omega
      have hk2 : k < cut.length := by omega
      have hk3 : k + 1 < cut.length := by omega
      have w1 := wrap_i64 ((k : Int) + 1) (by omega) (by omega)
      have tk : ((k : Int) + 1).toNat = k + 1 := by omega
      have pk : (0 : Int) ≤ (k : Int) + 1 := by omega
      by_cases hH : H c
      · have hh := h38 c hH
        rw [combF_pos hH] at hR
        cases r with
        | nil =>
          simp only at hR
          rw [← hdrop'] at hR
          have w0 : IntKind.i64.wrap (-1) = -1 := rfl
          have q1 := spRows_one (c, d)
          refine ⟨(k + 1, [(c, d)]), ?_⟩
          unfold c31b0
          simp [evCode, evOps, evOne, evOp, evPur, evEff, evPur.chunks, fillP, AOp.isEff, AO.ev, putP, PV.cells, PV.leaf, getB, getM, mapE, keyC, mapRows, mfind, eq1, eqL, scal, binP, unP, minP, maxP, foldP, PV.lt, PV.lt.ltL, endP, expoAll, expo, expo.expoL, frIds, frIds.frIdsL, nodupN, kill, cls, clsFuel, resO, RV.get, loadP, evC_p, evC_s, endS, endT, rowsOf, callP, thinL, unfr, unfr.unfrL, PV.noMem, PV.noMem.noMemL, optI, mapO, norm, trimT, trimB, forget, hasN, blksLt, List.set, S31, eI, e1, la, lb, hh, rc, gc, rd, gd, hk1, hk2, hk3, w1, w0, tk, pk, spRows_nil, q1]
          first | exact ⟨by omega, hR, by omega⟩ | exact ⟨by omega, by omega, hR, by omega⟩ | exact ⟨⟨by omega, hR⟩, by omega⟩
        | cons q r =>
          simp only [List.length_cons] at hr
          have e5 : (spRows (r.reverse ++ [q])).length = r.length + 1 := by rw [spRows_len]; simp
          have r2 : (spRows (r.reverse ++ [q]))[r.length]? = some [.int .i64 q.1, .int .i64 q.2] := spRows_get (by simp)
          have g2 : ∀ h, (spRows (r.reverse ++ [q]))[r.length]'h = [.int .i64 q.1, .int .i64 q.2] := spRows_got (by simp)
          have w0 : IntKind.i64.wrap (r.length : Int) = r.length := wrap_i64 _ (by omega) (by omega)
          have st := sp_set r.reverse q (q.1, d)
          rw [List.length_reverse] at st
          by_cases h : q.2 = c
          · simp only [h, if_true] at hR
            rw [← hdrop'] at hR
            refine ⟨(k + 1, (q.1, d) :: r), ?_⟩
            unfold c31b0
            simp [evCode, evOps, evOne, evOp, evPur, evEff, evPur.chunks, fillP, AOp.isEff, AO.ev, putP, PV.cells, PV.leaf, getB, getM, mapE, keyC, mapRows, mfind, eq1, eqL, scal, binP, unP, minP, maxP, foldP, PV.lt, PV.lt.ltL, endP, expoAll, expo, expo.expoL, frIds, frIds.frIdsL, nodupN, kill, cls, clsFuel, resO, RV.get, loadP, evC_p, evC_s, endS, endT, rowsOf, callP, thinL, unfr, unfr.unfrL, PV.noMem, PV.noMem.noMemL, optI, mapO, norm, trimT, trimB, forget, hasN, blksLt, List.set, S31, eI, e1, e5, la, lb, hh, rc, gc, rd, gd, r2, g2, hk1, hk2, hk3, w1, w0, tk, pk, h, st]
            first | exact ⟨by omega, by omega, hR, by omega⟩ | exact ⟨⟨by omega, by omega, hR⟩, by omega⟩
          · simp only [h, if_false] at hR
            rw [← hdrop'] at hR
            have m1 : (r.length + 1 + 1) * 16 ≤ 140737488355328 := by omega
            have m2 : r.length + 1 + 1 ≤ 140737488355328 := by omega
            have e6 : spRows (r.reverse ++ [q, (c, d)]) = spRows (r.reverse ++ [q]) ++ [[.int .i64 c, .int .i64 d]] := by rw [show r.reverse ++ [q, (c, d)] = (r.reverse ++ [q]) ++ [(c, d)] by simp, spRows_app (r.reverse ++ [q]), spRows_one]
            refine ⟨(k + 1, (c, d) :: q :: r), ?_⟩
            unfold c31b0
            simp [evCode, evOps, evOne, evOp, evPur, evEff, evPur.chunks, fillP, AOp.isEff, AO.ev, putP, PV.cells, PV.leaf, getB, getM, mapE, keyC, mapRows, mfind, eq1, eqL, scal, binP, unP, minP, maxP, foldP, PV.lt, PV.lt.ltL, endP, expoAll, expo, expo.expoL, frIds, frIds.frIdsL, nodupN, kill, cls, clsFuel, resO, RV.get, loadP, evC_p, evC_s, endS, endT, rowsOf, callP, thinL, unfr, unfr.unfrL, PV.noMem, PV.noMem.noMemL, optI, mapO, norm, trimT, trimB, forget, hasN, blksLt, List.set, S31, eI, e1, e5, la, lb, hh, rc, gc, rd, gd, r2, g2, hk1, hk2, hk3, w1, w0, tk, pk, h, m1, m2, e6]
            first | exact ⟨by omega, by omega, hR, by omega⟩ | exact ⟨⟨by omega, by omega, hR⟩, by omega⟩
      · have hh := h38n c hH
        rw [combF_neg hH, ← hdrop'] at hR
        refine ⟨(k + 1, r), ?_⟩
        unfold c31b0
        simp [evCode, evOps, evOne, evOp, evPur, evEff, evPur.chunks, fillP, AOp.isEff, AO.ev, putP, PV.cells, PV.leaf, getB, getM, mapE, keyC, mapRows, mfind, eq1, eqL, scal, binP, unP, minP, maxP, foldP, PV.lt, PV.lt.ltL, endP, expoAll, expo, expo.expoL, frIds, frIds.frIdsL, nodupN, kill, cls, clsFuel, resO, RV.get, loadP, evC_p, evC_s, endS, endT, rowsOf, callP, thinL, unfr, unfr.unfrL, PV.noMem, PV.noMem.noMemL, optI, mapO, norm, trimT, trimB, forget, hasN, blksLt, List.set, S31, eI, e1, la, lb, hh, rc, gc, hk1, hk2, w1, tk, pk]
        first | exact ⟨by omega, by omega, hR, by omega⟩ | exact ⟨⟨by omega, by omega, hR⟩, by omega⟩)
    (by
      rintro ⟨k, r⟩ ⟨hk, _, _⟩ hs s
      simp only at hk hs
      have w1 := wrap_i64 ((k : Int) + 1) (by omega) (by omega)
      have hk1 : ¬ ((k : Int) + 1 < cut.length) := by omega
      unfold c31b0
      simp [evCode, evOps, evOne, evOp, evPur, evEff, evPur.chunks, fillP, AOp.isEff, AO.ev, putP, PV.cells, PV.leaf, getB, getM, mapE, keyC, mapRows, mfind, eq1, eqL, scal, binP, unP, minP, maxP, foldP, PV.lt, PV.lt.ltL, endP, expoAll, expo, expo.expoL, frIds, frIds.frIdsL, nodupN, kill, cls, clsFuel, resO, RV.get, loadP, evC_p, evC_s, endS, endT, rowsOf, callP, thinL, unfr, unfr.unfrL, PV.noMem, PV.noMem.noMemL, optI, mapO, norm, trimT, trimB, forget, hasN, blksLt, List.set, S31, eI, e1, w1, hk1])
    (0, []) ⟨Nat.zero_le _, Nat.le_refl _, rfl⟩ (by simp only; omega) s0 E hE h0
  obtain ⟨⟨k, r⟩, ⟨hk, _, hR⟩, hs, h⟩ := L
  simp only at hk hR hs h
  refine ⟨k, r, hs, hk, ?_, h⟩
  rw [← hR, combF_end (by rw [List.length_drop]; omega)]
set_option maxRecDepth 100000 in
theorem f31 (pa pb : PV) (op : Int) (o : Option (List Int)) (hc : (o.getD []).length ≤ 1000) (H : Int → Prop) (la : ∀ k, PV.lt k pa = true) (lb : ∀ k, PV.lt k pb = true)
    (h38 : ∀ t, H t → evE Dg 38 [pa, pb, .int .i64 op, .int .i64 t] = some (.bool true)) (h38n : ∀ t, ¬ H t → evE Dg 38 [pa, pb, .int .i64 op, .int .i64 t] = some (.bool false))
    (h37 : evE Dg 37 [pa, pb] = some (rO o)) : evE Dg 31 [pa, pb, .int .i64 op] = some (.fr 2 (spRows (combF H [] (o.getD [])))) := by
  have T := loop31 pa pb op (o.getD []) hc H la lb h38 h38n
  have e1 := inR_len (o.getD [])
  refine evE_intro 2000 D31 rfl ?_
  unfold c31
  have key : ∀ E, (∃ k r, (o.getD []).length ≤ k + 1 ∧ k ≤ (o.getD []).length ∧ r.reverse = combF H [] (o.getD []) ∧ E = evCode (evC Dg) 2000 c31b0 (S31 pa pb op (o.getD []) (k, r))) → ∃ k r, (o.getD []).length ≤ k + 1 ∧ k ≤ (o.getD []).length ∧ r.reverse = combF H [] (o.getD []) ∧ E = evCode (evC Dg) 2000 c31b0 (S31 pa pb op (o.getD []) (k, r)) := fun _ h => h
  cases o with
  | none =>
    simp only [rO] at h37
    simp only [Option.getD_none, inR_nil] at T e1 ⊢
    simp [evCode, evOps, evOne, evOp, evPur, evEff, evPur.chunks, fillP, AOp.isEff, AO.ev, putP, PV.cells, PV.leaf, getB, getM, mapE, keyC, mapRows, mfind, eq1, eqL, scal, binP, unP, minP, maxP, foldP, PV.lt, PV.lt.ltL, endP, expoAll, expo, expo.expoL, frIds, frIds.frIdsL, nodupN, kill, cls, clsFuel, resO, RV.get, loadP, evC_p, evC_s, endS, endT, rowsOf, callP, thinL, unfr, unfr.unfrL, PV.noMem, PV.noMem.noMemL, optI, mapO, norm, trimT, trimB, forget, hasN, blksLt, List.set, la, lb, h37]
    generalize hE : evLoop _ _ _ _ _ = E
    obtain ⟨k, r, hs, hk, hr, h⟩ := T _ _ hE (by simp [evCode, evOps, evOne, evOp, evPur, evEff, evPur.chunks, fillP, AOp.isEff, AO.ev, putP, PV.cells, PV.leaf, getB, getM, mapE, keyC, mapRows, mfind, eq1, eqL, scal, binP, unP, minP, maxP, foldP, PV.lt, PV.lt.ltL, endP, expoAll, expo, expo.expoL, frIds, frIds.frIdsL, nodupN, kill, cls, clsFuel, resO, RV.get, loadP, evC_p, evC_s, endS, endT, rowsOf, callP, thinL, unfr, unfr.unfrL, PV.noMem, PV.noMem.noMemL, optI, mapO, norm, trimT, trimB, forget, hasN, blksLt, List.set, S31, eI, la, lb, inR_nil, spRows_nil])
    simp only [List.length_nil] at hs hk
    rw [h, ← hr]
    have w1 := wrap_i64 ((k : Int) + 1) (by omega) (by omega)
    have hk1 : ¬ ((k : Int) + 1 < 0) := by omega
    have er : (spRows r.reverse).length = r.length := by rw [spRows_len, List.length_reverse]
    unfold c31b0
    simp [evCode, evOps, evOne, evOp, evPur, evEff, evPur.chunks, fillP, AOp.isEff, AO.ev, putP, PV.cells, PV.leaf, getB, getM, mapE, keyC, mapRows, mfind, eq1, eqL, scal, binP, unP, minP, maxP, foldP, PV.lt, PV.lt.ltL, endP, expoAll, expo, expo.expoL, frIds, frIds.frIdsL, nodupN, kill, cls, clsFuel, resO, RV.get, loadP, evC_p, evC_s, endS, endT, rowsOf, callP, thinL, unfr, unfr.unfrL, PV.noMem, PV.noMem.noMemL, optI, mapO, norm, trimT, trimB, forget, hasN, blksLt, List.set, S31, eI, w1, hk1, inR_nil, er]
  | some G =>
    simp only [rO, eI] at h37
    simp only [Option.getD_some] at T e1 hc ⊢
    simp [evCode, evOps, evOne, evOp, evPur, evEff, evPur.chunks, fillP, AOp.isEff, AO.ev, putP, PV.cells, PV.leaf, getB, getM, mapE, keyC, mapRows, mfind, eq1, eqL, scal, binP, unP, minP, maxP, foldP, PV.lt, PV.lt.ltL, endP, expoAll, expo, expo.expoL, frIds, frIds.frIdsL, nodupN, kill, cls, clsFuel, resO, RV.get, loadP, evC_p, evC_s, endS, endT, rowsOf, callP, thinL, unfr, unfr.unfrL, PV.noMem, PV.noMem.noMemL, optI, mapO, norm, trimT, trimB, forget, hasN, blksLt, List.set, la, lb, h37]
    generalize hE : evLoop _ _ _ _ _ = E
    obtain ⟨k, r, hs, hk, hr, h⟩ := T _ _ hE (by simp [evCode, evOps, evOne, evOp, evPur, evEff, evPur.chunks, fillP, AOp.isEff, AO.ev, putP, PV.cells, PV.leaf, getB, getM, mapE, keyC, mapRows, mfind, eq1, eqL, scal, binP, unP, minP, maxP, foldP, PV.lt, PV.lt.ltL, endP, expoAll, expo, expo.expoL, frIds, frIds.frIdsL, nodupN, kill, cls, clsFuel, resO, RV.get, loadP, evC_p, evC_s, endS, endT, rowsOf, callP, thinL, unfr, unfr.unfrL, PV.noMem, PV.noMem.noMemL, optI, mapO, norm, trimT, trimB, forget, hasN, blksLt, List.set, S31, eI, la, lb, spRows_nil])
    rw [h, ← hr]
    have w1 := wrap_i64 ((k : Int) + 1) (by omega) (by omega)
    have hk1 : ¬ ((k : Int) + 1 < G.length) := by omega
    have er : (spRows r.reverse).length = r.length := by rw [spRows_len, List.length_reverse]
    unfold c31b0
    simp [evCode, evOps, evOne, evOp, evPur, evEff, evPur.chunks, fillP, AOp.isEff, AO.ev, putP, PV.cells, PV.leaf, getB, getM, mapE, keyC, mapRows, mfind, eq1, eqL, scal, binP, unP, minP, maxP, foldP, PV.lt, PV.lt.ltL, endP, expoAll, expo, expo.expoL, frIds, frIds.frIdsL, nodupN, kill, cls, clsFuel, resO, RV.get, loadP, evC_p, evC_s, endS, endT, rowsOf, callP, thinL, unfr, unfr.unfrL, PV.noMem, PV.noMem.noMemL, optI, mapO, norm, trimT, trimB, forget, hasN, blksLt, List.set, S31, eI, e1, w1, hk1, er]
end Go.Proofs.Ytildbjepbnjbfaa
