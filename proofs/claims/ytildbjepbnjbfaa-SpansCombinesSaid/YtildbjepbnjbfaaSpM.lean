/- spans: the laws against the reference, of pure arguments. -/
import Derived.Test.YtildbjepbnjbfaaSpK
namespace Go.Proofs.Ytildbjepbnjbfaa
open Go Go.RowKit
set_option linter.unusedVariables false
set_option linter.unusedSimpArgs false
set_option maxHeartbeats 8000000

theorem endsF_len : ∀ (l : List Sp) (o : List Int), (endsF o l).length ≤ o.length + 2 * l.length
  | [], o => by simp [endsF]
  | s :: l, o => by
    have h := endsF_len l (if vl s then insE s.2 (insE s.1 o) else o)
    have h1 := insE_len s.1 o
    have h2 := insE_len s.2 (insE s.1 o)
    have h3 : (if vl s then insE s.2 (insE s.1 o) else o).length ≤ o.length + 2 := by split <;> omega
    show (endsF (if vl s then insE s.2 (insE s.1 o) else o) l).length ≤ _
    simp only [List.length_cons]
    omega
theorem lt_eS (x : Bool) (l : List Sp) : ∀ k, PV.lt k (eS x l) = true := fun k => rfl
theorem set_iff {l : List Sp} {t c : Int} (h : ∀ s ∈ l, vl s → ((s.1 ≤ t ∧ t < s.2) ↔ (s.1 ≤ c ∧ c < s.2))) : setOf t l ↔ setOf c l := by
  constructor
  · rintro ⟨s, hs, hv, q⟩; exact ⟨s, hs, hv, (h s hs hv).1 q⟩
  · rintro ⟨s, hs, hv, q⟩; exact ⟨s, hs, hv, (h s hs hv).2 q⟩
/-- what combine gives of two lists -/
theorem comb2 (x y : Bool) (a b : List Sp) (ha : a.length ≤ 25) (hb : b.length ≤ 25) (op : Int) (ho : op = 1 ∨ op = 2 ∨ op = 3) (R : List Sp) (hR : Nrm R) (hset : ∀ t, inS t R ↔ hbop op (decide (setOf t a)) (decide (setOf t b)) = true) :
    evE Dg 31 [eS x a, eS y b, .int .i64 op] = some (.fr 2 (spRows R)) := by
  have hcut : ((a ++ b).foldl endO none).getD [] = endsF [] (a ++ b) := endO_fold (a ++ b) none
  have hlen := endsF_len (a ++ b) []
  simp only [List.length_append, List.length_nil] at hlen
  have h38 := fun t => f38 (eS x a) (eS y b) op ho t _ _ (lt_eS x a) (lt_eS y b) (f27 x a t (by omega)) (f27 y b t (by omega))
  obtain ⟨C1, C2⟩ := comb_spec (fun t => hbop op (decide (setOf t a)) (decide (setOf t b)) = true) (a ++ b) (fun t c h => by
    have h1 : setOf t a ↔ setOf c a := set_iff fun s hs => h s (by simp [hs])
    have h2 : setOf t b ↔ setOf c b := set_iff fun s hs => h s (by simp [hs])
    have e1 : decide (setOf t a) = decide (setOf c a) := decide_eq_decide.2 h1
    have e2 : decide (setOf t b) = decide (setOf c b) := decide_eq_decide.2 h2
    simp only [e1, e2]) (fun t h => by
    rw [setOf_app]
    by_cases h1 : setOf t a
    · exact .inl h1
    · by_cases h2 : setOf t b
      · exact .inr h2
      · simp only [h1, h2, decide_false] at h
        rcases ho with rfl | rfl | rfl <;> simp [hbop] at h)
  have T := f31 (eS x a) (eS y b) op ((a ++ b).foldl endO none) (by rw [hcut]; omega) (fun t => hbop op (decide (setOf t a)) (decide (setOf t b)) = true) (lt_eS x a) (lt_eS y b) (fun t h => by rw [h38 t, h]) (fun t h => by
    rw [Bool.not_eq_true] at h
    rw [h38 t, h]) (f37 x y a b ha hb)
  rw [hcut] at T
  rw [T, nrm_unique C1 hR fun t => by rw [C2, hset]]
theorem comb1 (x : Bool) (a : List Sp) (ha : a.length ≤ 25) (R : List Sp) (hR : Nrm R) (hset : ∀ t, inS t R ↔ setOf t a) : evE Dg 31 [eS x a, .nilS, .int .i64 1] = some (.fr 2 (spRows R)) := by
  have hcut : (a.foldl endO none).getD [] = endsF [] a := endO_fold a none
  have hlen := endsF_len a []
  simp only [List.length_nil] at hlen
  have h38 := fun t => f38 (eS x a) .nilS 1 (.inl rfl) t _ _ (lt_eS x a) (fun _ => rfl) (f27 x a t (by omega)) (f27_nil t)
  have hb : ∀ A, hbop 1 A false = A := fun A => by cases A <;> rfl
  simp only [hb] at h38
  obtain ⟨C1, C2⟩ := comb_spec (fun t => setOf t a) a (fun t c h => set_iff h) (fun t h => h)
  have T := f31 (eS x a) .nilS 1 (a.foldl endO none) (by rw [hcut]; omega) (fun t => setOf t a) (lt_eS x a) (fun _ => rfl) (fun t h => by rw [h38 t, decide_eq_true h]) (fun t h => by rw [h38 t, decide_eq_false h]) (f37n x a ha)
  rw [hcut] at T
  rw [T, nrm_unique C1 hR fun t => by rw [C2, hset]]
theorem f15 (x : Bool) (a : List Sp) (ha : a.length ≤ 25) : evE Dg 15 [eS x a] = some (eS false (norF a)) := by
  have c := comb1 x a ha (norF a) (norF_spec a).1 (norF_spec a).2
  simp only [eS] at c
  refine evE_intro 3 D15 rfl ?_
  unfold c15
  simp [evCode, evOps, evOne, evOp, evPur, evEff, evPur.chunks, fillP, AOp.isEff, AO.ev, putP, PV.cells, PV.leaf, getB, getM, mapE, keyC, mapRows, mfind, eq1, eqL, scal, binP, unP, minP, maxP, foldP, PV.lt, PV.lt.ltL, endP, expoAll, expo, expo.expoL, frIds, frIds.frIdsL, nodupN, kill, cls, clsFuel, resO, RV.get, loadP, evC_p, evC_s, endS, endT, rowsOf, callP, thinL, unfr, unfr.unfrL, PV.noMem, PV.noMem.noMemL, optI, mapO, norm, trimT, trimB, forget, hasN, blksLt, List.set, eS, c]
theorem f21 (x y : Bool) (a b : List Sp) (ha : a.length ≤ 25) (hb : b.length ≤ 25) : evE Dg 21 [eS x a, eS y b] = some (eS false (norF (a ++ b))) := by
  have c := comb2 x y a b ha hb 1 (.inl rfl) (norF (a ++ b)) (uni_spec a b).1 (fun t => by rw [(uni_spec a b).2]; by_cases h1 : setOf t a <;> by_cases h2 : setOf t b <;> simp [hbop, h1, h2])
  generalize norF (a ++ b) = U at *
  simp only [eS] at c
  refine evE_intro 3 D21 rfl ?_
  unfold c21
  simp [evCode, evOps, evOne, evOp, evPur, evEff, evPur.chunks, fillP, AOp.isEff, AO.ev, putP, PV.cells, PV.leaf, getB, getM, mapE, keyC, mapRows, mfind, eq1, eqL, scal, binP, unP, minP, maxP, foldP, PV.lt, PV.lt.ltL, endP, expoAll, expo, expo.expoL, frIds, frIds.frIdsL, nodupN, kill, cls, clsFuel, resO, RV.get, loadP, evC_p, evC_s, endS, endT, rowsOf, callP, thinL, unfr, unfr.unfrL, PV.noMem, PV.noMem.noMemL, optI, mapO, norm, trimT, trimB, forget, hasN, blksLt, List.set, eS, c]
theorem f23 (x y : Bool) (a b : List Sp) (ha : a.length ≤ 25) (hb : b.length ≤ 25) : evE Dg 23 [eS x a, eS y b] = some (eS false (meeF a b)) := by
  have c := comb2 x y a b ha hb 2 (.inr (.inl rfl)) (meeF a b) (meeF_spec a b).1 (fun t => by rw [(meeF_spec a b).2]; by_cases h1 : setOf t a <;> by_cases h2 : setOf t b <;> simp [hbop, h1, h2])
  generalize meeF a b = U at *
  simp only [eS] at c
  refine evE_intro 3 D23 rfl ?_
  unfold c23
  simp [evCode, evOps, evOne, evOp, evPur, evEff, evPur.chunks, fillP, AOp.isEff, AO.ev, putP, PV.cells, PV.leaf, getB, getM, mapE, keyC, mapRows, mfind, eq1, eqL, scal, binP, unP, minP, maxP, foldP, PV.lt, PV.lt.ltL, endP, expoAll, expo, expo.expoL, frIds, frIds.frIdsL, nodupN, kill, cls, clsFuel, resO, RV.get, loadP, evC_p, evC_s, endS, endT, rowsOf, callP, thinL, unfr, unfr.unfrL, PV.noMem, PV.noMem.noMemL, optI, mapO, norm, trimT, trimB, forget, hasN, blksLt, List.set, eS, c]
theorem f25 (x y : Bool) (a b : List Sp) (ha : a.length ≤ 25) (hb : b.length ≤ 25) : evE Dg 25 [eS x a, eS y b] = some (eS false (minF a b)) := by
  have c := comb2 x y a b ha hb 3 (.inr (.inr rfl)) (minF a b) (minF_spec a b).1 (fun t => by rw [(minF_spec a b).2]; by_cases h1 : setOf t a <;> by_cases h2 : setOf t b <;> simp [hbop, h1, h2])
  generalize minF a b = U at *
  simp only [eS] at c
  refine evE_intro 3 D25 rfl ?_
  unfold c25
  simp [evCode, evOps, evOne, evOp, evPur, evEff, evPur.chunks, fillP, AOp.isEff, AO.ev, putP, PV.cells, PV.leaf, getB, getM, mapE, keyC, mapRows, mfind, eq1, eqL, scal, binP, unP, minP, maxP, foldP, PV.lt, PV.lt.ltL, endP, expoAll, expo, expo.expoL, frIds, frIds.frIdsL, nodupN, kill, cls, clsFuel, resO, RV.get, loadP, evC_p, evC_s, endS, endT, rowsOf, callP, thinL, unfr, unfr.unfrL, PV.noMem, PV.noMem.noMemL, optI, mapO, norm, trimT, trimB, forget, hasN, blksLt, List.set, eS, c]
set_option maxRecDepth 100000 in
/-- SpansCombines -/
theorem f4 (x y : Bool) (a b : List Sp) : evE Dg 4 [eS x a, eS y b] = some (.bool true) := by
  have aw := f10
  have fw := f9 x y a b
  by_cases h : a.length ≤ 25 ∧ b.length ≤ 25
  · obtain ⟨ha, hb⟩ := h
    have hm := meeF_bound ha hb
    have hn := minF_bound ha hb
    have hu := norF_len (a ++ b)
    simp only [List.length_append] at hu
    have b0 := f20 x y a b (by omega) (by omega)
    have b1 := f22 x y a b (by omega) (by omega)
    have b2 := f24 x y a b (by omega) (by omega)
    have b3 := f21 x y a b ha hb
    have b4 := f23 x y a b ha hb
    have b5 := f25 x y a b ha hb
    have c0 := f13 false false (norF (a ++ b)) (norF (a ++ b)) (by omega)
    have c1 := f13 false false (meeF a b) (meeF a b) (by omega)
    have c2 := f13 false false (minF a b) (minF a b) (by omega)
    generalize norF (a ++ b) = U at *
    generalize meeF a b = M at *
    generalize minF a b = D at *
    simp only [eS, ha, hb, and_self, decide_true] at fw b0 b1 b2 b3 b4 b5 c0 c1 c2
    refine evE_intro 3 D4 rfl ?_
    unfold c4
    simp [evCode, evOps, evOne, evOp, evPur, evEff, evPur.chunks, fillP, AOp.isEff, AO.ev, putP, PV.cells, PV.leaf, getB, getM, mapE, keyC, mapRows, mfind, eq1, eqL, scal, binP, unP, minP, maxP, foldP, PV.lt, PV.lt.ltL, endP, expoAll, expo, expo.expoL, frIds, frIds.frIdsL, nodupN, kill, cls, clsFuel, resO, RV.get, loadP, evC_p, evC_s, endS, endT, rowsOf, callP, thinL, unfr, unfr.unfrL, PV.noMem, PV.noMem.noMemL, optI, mapO, norm, trimT, trimB, forget, hasN, blksLt, List.set, eS, aw, fw, b0, b1, b2, b3, b4, b5, c0, c1, c2]
  · simp only [h, decide_false, eS] at fw
    refine evE_intro 3 D4 rfl ?_
    unfold c4
    simp [evCode, evOps, evOne, evOp, evPur, evEff, evPur.chunks, fillP, AOp.isEff, AO.ev, putP, PV.cells, PV.leaf, getB, getM, mapE, keyC, mapRows, mfind, eq1, eqL, scal, binP, unP, minP, maxP, foldP, PV.lt, PV.lt.ltL, endP, expoAll, expo, expo.expoL, frIds, frIds.frIdsL, nodupN, kill, cls, clsFuel, resO, RV.get, loadP, evC_p, evC_s, endS, endT, rowsOf, callP, thinL, unfr, unfr.unfrL, PV.noMem, PV.noMem.noMemL, optI, mapO, norm, trimT, trimB, forget, hasN, blksLt, List.set, eS, aw, fw]
theorem law4 (ps : List PV) (h : ArgL Try.prog 12 [22, 22] ps) : evE Dg 4 ps = some (.bool true) := by
  obtain ⟨p, q, rfl, h1, h2⟩ := argL2 h
  obtain ⟨a, rfl⟩ := in_spans h1
  obtain ⟨b, rfl⟩ := in_spans h2
  exact f4 false false a b

def S17 (x : Bool) (l : List Sp) (k : Nat) : St := ⟨[eS x l, .top, .top, .int .i64 k] ++ List.replicate 30 .top, []⟩
set_option maxRecDepth 100000 in
theorem f17 (x : Bool) (l : List Sp) (hl : l.length ≤ 1000000) : evE Dg 17 [eS x l] = some (.bool (decide (Nrm l))) := by
  have e1 := spRows_len l
  have H := loop_first (body := evCode (evC Dg) (l.length + 1) c17b0) (keep := [0, 3]) (n0 := 0) (fuel := l.length + 1) l (S17 x l) (qN l) (fun e t => t.sl[2]?.getD .top = .bool false)
    (by
      intro k a ha hk hq
      rw [qN_zero] at hq
      have hv := hq.1
      have hk' : (k : Int) < l.length := by omega
      have w1 := wrap_i64 ((k : Int) + 1) (by omega) (by omega)
      have h11 := f12 a
      have r1 := spRows_get ha
      have g1 := spRows_got ha
      unfold c17b0
      by_cases k0 : k = 0
      · have k1 : ¬ (0 < k) := by omega
        have k1' : ¬ (0 < (k : Int)) := by omega
        simp [evCode, evOps, evOne, evOp, evPur, evEff, evPur.chunks, fillP, AOp.isEff, AO.ev, putP, PV.cells, PV.leaf, getB, getM, mapE, keyC, mapRows, mfind, eq1, eqL, scal, binP, unP, minP, maxP, foldP, PV.lt, PV.lt.ltL, endP, expoAll, expo, expo.expoL, frIds, frIds.frIdsL, nodupN, kill, cls, clsFuel, resO, RV.get, loadP, evC_p, evC_s, endS, endT, rowsOf, callP, thinL, unfr, unfr.unfrL, PV.noMem, PV.noMem.noMemL, optI, mapO, norm, trimT, trimB, forget, hasN, blksLt, List.set, S17, eS, e1, r1, g1, hk, hk', w1, h11, hv, k1, k1']
      · obtain ⟨j, hj⟩ : ∃ j, k = j + 1 := ⟨k - 1, by omega⟩
        obtain ⟨b, hb⟩ : ∃ b, l[j]? = some b := ⟨_, List.getElem?_eq_getElem (by omega)⟩
        have c3 : ¬ (a.1 ≤ b.2) := by have := hq.2 j b hj hb; omega
        have w : IntKind.i64.wrap ((k : Int) - 1) = (j : Int) := by rw [hj, wrap_i64 _ (by omega) (by omega)]; omega
        have k1 : 0 < k := by omega
        have k1' : 0 < (k : Int) := by omega
        have r2 := spRows_get hb
        have g2 := spRows_got hb
        have hjl : j < l.length := by omega
        simp [evCode, evOps, evOne, evOp, evPur, evEff, evPur.chunks, fillP, AOp.isEff, AO.ev, putP, PV.cells, PV.leaf, getB, getM, mapE, keyC, mapRows, mfind, eq1, eqL, scal, binP, unP, minP, maxP, foldP, PV.lt, PV.lt.ltL, endP, expoAll, expo, expo.expoL, frIds, frIds.frIdsL, nodupN, kill, cls, clsFuel, resO, RV.get, loadP, evC_p, evC_s, endS, endT, rowsOf, callP, thinL, unfr, unfr.unfrL, PV.noMem, PV.noMem.noMemL, optI, mapO, norm, trimT, trimB, forget, hasN, blksLt, List.set, S17, eS, e1, r1, g1, r2, g2, hjl, hk, hk', w1, h11, hv, k1, k1', w, c3])
    (by
      intro k a ha hk hq
      have hk' : (k : Int) < l.length := by omega
      have h11 := f12 a
      have r1 := spRows_get ha
      have g1 := spRows_got ha
      unfold c17b0
      by_cases hv : vl a
      · have hk0 : ∃ j b, k = j + 1 ∧ l[j]? = some b ∧ a.1 ≤ b.2 := by
          refine Classical.byContradiction fun hn => hq (qN_zero.2 ⟨hv, fun j u hj hu => ?_⟩)
          refine Decidable.byContradiction fun hh => hn ⟨j, u, hj, hu, by omega⟩
        obtain ⟨j, b, hj, hb, c3⟩ := hk0
        have w : IntKind.i64.wrap ((k : Int) - 1) = (j : Int) := by rw [hj, wrap_i64 _ (by omega) (by omega)]; omega
        have k1 : 0 < k := by omega
        have k1' : 0 < (k : Int) := by omega
        have r2 := spRows_get hb
        have g2 := spRows_got hb
        have hjl : j < l.length := by omega
        simp [evCode, evOps, evOne, evOp, evPur, evEff, evPur.chunks, fillP, AOp.isEff, AO.ev, putP, PV.cells, PV.leaf, getB, getM, mapE, keyC, mapRows, mfind, eq1, eqL, scal, binP, unP, minP, maxP, foldP, PV.lt, PV.lt.ltL, endP, expoAll, expo, expo.expoL, frIds, frIds.frIdsL, nodupN, kill, cls, clsFuel, resO, RV.get, loadP, evC_p, evC_s, endS, endT, rowsOf, callP, thinL, unfr, unfr.unfrL, PV.noMem, PV.noMem.noMemL, optI, mapO, norm, trimT, trimB, forget, hasN, blksLt, List.set, S17, eS, e1, r1, g1, r2, g2, hjl, hk, hk', h11, hv, k1, k1', w, c3]
      · simp [evCode, evOps, evOne, evOp, evPur, evEff, evPur.chunks, fillP, AOp.isEff, AO.ev, putP, PV.cells, PV.leaf, getB, getM, mapE, keyC, mapRows, mfind, eq1, eqL, scal, binP, unP, minP, maxP, foldP, PV.lt, PV.lt.ltL, endP, expoAll, expo, expo.expoL, frIds, frIds.frIdsL, nodupN, kill, cls, clsFuel, resO, RV.get, loadP, evC_p, evC_s, endS, endT, rowsOf, callP, thinL, unfr, unfr.unfrL, PV.noMem, PV.noMem.noMemL, optI, mapO, norm, trimT, trimB, forget, hasN, blksLt, List.set, S17, eS, e1, r1, g1, hk, hk', h11, hv])
    (by
      intro s
      unfold c17b0
      simp [evCode, evOps, evOne, evOp, evPur, evEff, evPur.chunks, fillP, AOp.isEff, AO.ev, putP, PV.cells, PV.leaf, getB, getM, mapE, keyC, mapRows, mfind, eq1, eqL, scal, binP, unP, minP, maxP, foldP, PV.lt, PV.lt.ltL, endP, expoAll, expo, expo.expoL, frIds, frIds.frIdsL, nodupN, kill, cls, clsFuel, resO, RV.get, loadP, evC_p, evC_s, endS, endT, rowsOf, callP, thinL, unfr, unfr.unfrL, PV.noMem, PV.noMem.noMemL, optI, mapO, norm, trimT, trimB, forget, hasN, blksLt, List.set, S17, eS, e1])
    (by omega)
  refine evE_intro (l.length + 1) D17 rfl ?_
  unfold c17
  simp [evCode, evOps, evOne, evOp, evPur, evEff, evPur.chunks, fillP, AOp.isEff, AO.ev, putP, PV.cells, PV.leaf, getB, getM, mapE, keyC, mapRows, mfind, eq1, eqL, scal, binP, unP, minP, maxP, foldP, PV.lt, PV.lt.ltL, endP, expoAll, expo, expo.expoL, frIds, frIds.frIdsL, nodupN, kill, cls, clsFuel, resO, RV.get, loadP, evC_p, evC_s, endS, endT, rowsOf, callP, thinL, unfr, unfr.unfrL, PV.noMem, PV.noMem.noMemL, optI, mapO, norm, trimT, trimB, forget, hasN, blksLt, List.set, eS, e1]
  generalize hE : evLoop _ _ _ _ _ = E
  rcases H _ _ hE (by simp [evCode, evOps, evOne, evOp, evPur, evEff, evPur.chunks, fillP, AOp.isEff, AO.ev, putP, PV.cells, PV.leaf, getB, getM, mapE, keyC, mapRows, mfind, eq1, eqL, scal, binP, unP, minP, maxP, foldP, PV.lt, PV.lt.ltL, endP, expoAll, expo, expo.expoL, frIds, frIds.frIdsL, nodupN, kill, cls, clsFuel, resO, RV.get, loadP, evC_p, evC_s, endS, endT, rowsOf, callP, thinL, unfr, unfr.unfrL, PV.noMem, PV.noMem.noMemL, optI, mapO, norm, trimT, trimB, forget, hasN, blksLt, List.set, S17, eS]) with ⟨q1, q2⟩ | ⟨q1, s, q2, q3⟩
  · have hn := nrm_iff.1 q1
    rw [q2]
    unfold c17b0
    simp [evCode, evOps, evOne, evOp, evPur, evEff, evPur.chunks, fillP, AOp.isEff, AO.ev, putP, PV.cells, PV.leaf, getB, getM, mapE, keyC, mapRows, mfind, eq1, eqL, scal, binP, unP, minP, maxP, foldP, PV.lt, PV.lt.ltL, endP, expoAll, expo, expo.expoL, frIds, frIds.frIdsL, nodupN, kill, cls, clsFuel, resO, RV.get, loadP, evC_p, evC_s, endS, endT, rowsOf, callP, thinL, unfr, unfr.unfrL, PV.noMem, PV.noMem.noMemL, optI, mapO, norm, trimT, trimB, forget, hasN, blksLt, List.set, S17, eS, e1, hn]
  · have hn : ¬ Nrm l := fun h => q1 (nrm_iff.2 h)
    rw [q2]
    simp [evCode, evOps, evOne, evOp, evPur, evEff, evPur.chunks, fillP, AOp.isEff, AO.ev, putP, PV.cells, PV.leaf, getB, getM, mapE, keyC, mapRows, mfind, eq1, eqL, scal, binP, unP, minP, maxP, foldP, PV.lt, PV.lt.ltL, endP, expoAll, expo, expo.expoL, frIds, frIds.frIdsL, nodupN, kill, cls, clsFuel, resO, RV.get, loadP, evC_p, evC_s, endS, endT, rowsOf, callP, thinL, unfr, unfr.unfrL, PV.noMem, PV.noMem.noMemL, optI, mapO, norm, trimT, trimB, forget, hasN, blksLt, List.set, q3, hn]

def S19 (l : List Sp) (k : Nat) (n : Int) : St := ⟨[.top, .top, .top, .int .i64 n, eS false l, .int .i64 k] ++ List.replicate 22 .top, []⟩
set_option maxRecDepth 100000 in
theorem f19 (x : Bool) (l : List Sp) (hl : l.length ≤ 25) : evE Dg 19 [eS x l] = some (.int .i64 (lenF (norF l))) := by
  have fl := f15 x l hl
  have ll := norF_len l
  have hN := (norF_spec l).1.1
  generalize norF l = L at *
  have e1 := spRows_len L
  have H1 := loop_foldE (body := evCode (evC Dg) (L.length + 1) c19b0) (keep := [3, 4, 5]) (n0 := 0) (fuel := L.length + 1) L (S19 L) addL (fun k n => 0 ≤ n ∧ n ≤ k * 1000000000000)
    (by
      rintro k a n ha hk ⟨h1, h2⟩
      have hk' : (k : Int) < L.length := by omega
      have w1 := wrap_i64 ((k : Int) + 1) (by omega) (by omega)
      have r1 := spRows_get ha
      have g1 := spRows_got ha
      have hv := hN a (List.mem_of_getElem? ha)
      unfold vl MT at hv
      have w2 := wrap_i64 (n + a.2) (by omega) (by omega)
      have w3 : IntKind.i64.wrap (n + a.2 - a.1) = n + (a.2 - a.1) := by rw [wrap_i64 _ (by omega) (by omega)]; omega
      refine ⟨⟨by unfold addL; omega, by unfold addL; omega⟩, ?_⟩
      unfold c19b0
      simp [evCode, evOps, evOne, evOp, evPur, evEff, evPur.chunks, fillP, AOp.isEff, AO.ev, putP, PV.cells, PV.leaf, getB, getM, mapE, keyC, mapRows, mfind, eq1, eqL, scal, binP, unP, minP, maxP, foldP, PV.lt, PV.lt.ltL, endP, expoAll, expo, expo.expoL, frIds, frIds.frIdsL, nodupN, kill, cls, clsFuel, resO, RV.get, loadP, evC_p, evC_s, endS, endT, rowsOf, callP, thinL, unfr, unfr.unfrL, PV.noMem, PV.noMem.noMemL, optI, mapO, norm, trimT, trimB, forget, hasN, blksLt, List.set, S19, eS, e1, r1, g1, hk, hk', w1, w2, w3, addL])
    (by
      intro n hn s
      unfold c19b0
      simp [evCode, evOps, evOne, evOp, evPur, evEff, evPur.chunks, fillP, AOp.isEff, AO.ev, putP, PV.cells, PV.leaf, getB, getM, mapE, keyC, mapRows, mfind, eq1, eqL, scal, binP, unP, minP, maxP, foldP, PV.lt, PV.lt.ltL, endP, expoAll, expo, expo.expoL, frIds, frIds.frIdsL, nodupN, kill, cls, clsFuel, resO, RV.get, loadP, evC_p, evC_s, endS, endT, rowsOf, callP, thinL, unfr, unfr.unfrL, PV.noMem, PV.noMem.noMemL, optI, mapO, norm, trimT, trimB, forget, hasN, blksLt, List.set, S19, eS, e1])
    (by omega) 0 (by simp)
  simp only [eS] at fl
  refine evE_intro (L.length + 1) D19 rfl ?_
  unfold c19
  simp [evCode, evOps, evOne, evOp, evPur, evEff, evPur.chunks, fillP, AOp.isEff, AO.ev, putP, PV.cells, PV.leaf, getB, getM, mapE, keyC, mapRows, mfind, eq1, eqL, scal, binP, unP, minP, maxP, foldP, PV.lt, PV.lt.ltL, endP, expoAll, expo, expo.expoL, frIds, frIds.frIdsL, nodupN, kill, cls, clsFuel, resO, RV.get, loadP, evC_p, evC_s, endS, endT, rowsOf, callP, thinL, unfr, unfr.unfrL, PV.noMem, PV.noMem.noMemL, optI, mapO, norm, trimT, trimB, forget, hasN, blksLt, List.set, eS, fl, e1]
  generalize hE : evLoop _ _ _ _ _ = E
  obtain ⟨E1, _⟩ := H1 _ _ hE (by simp [evCode, evOps, evOne, evOp, evPur, evEff, evPur.chunks, fillP, AOp.isEff, AO.ev, putP, PV.cells, PV.leaf, getB, getM, mapE, keyC, mapRows, mfind, eq1, eqL, scal, binP, unP, minP, maxP, foldP, PV.lt, PV.lt.ltL, endP, expoAll, expo, expo.expoL, frIds, frIds.frIdsL, nodupN, kill, cls, clsFuel, resO, RV.get, loadP, evC_p, evC_s, endS, endT, rowsOf, callP, thinL, unfr, unfr.unfrL, PV.noMem, PV.noMem.noMemL, optI, mapO, norm, trimT, trimB, forget, hasN, blksLt, List.set, S19, eS])
  rw [addL_fold, Int.zero_add] at E1
  rw [E1]
  unfold c19b0
  simp [evCode, evOps, evOne, evOp, evPur, evEff, evPur.chunks, fillP, AOp.isEff, AO.ev, putP, PV.cells, PV.leaf, getB, getM, mapE, keyC, mapRows, mfind, eq1, eqL, scal, binP, unP, minP, maxP, foldP, PV.lt, PV.lt.ltL, endP, expoAll, expo, expo.expoL, frIds, frIds.frIdsL, nodupN, kill, cls, clsFuel, resO, RV.get, loadP, evC_p, evC_s, endS, endT, rowsOf, callP, thinL, unfr, unfr.unfrL, PV.noMem, PV.noMem.noMemL, optI, mapO, norm, trimT, trimB, forget, hasN, blksLt, List.set, S19, eS, e1]

def S3 (x : Bool) (l : List Sp) (k : Nat) : St := ⟨[eS x l, .top, .top, .int .i64 k] ++ List.replicate 43 .top, []⟩
set_option maxRecDepth 100000 in
/-- SpansNormals -/
theorem f3 (x : Bool) (l : List Sp) : evE Dg 3 [eS x l] = some (.bool true) := by
  have aw := f10
  have fw := f9n x l
  by_cases h : l.length ≤ 25
  · have hna := norF_len l
    have e1 := spRows_len l
    have H := loop_all (body := evCode (evC Dg) 70 c3b0) (keep := [0, 3]) (n0 := 0) (fuel := 70) l (S3 x l) (fun _ => true) (fun _ => True)
      (by
        intro k a ha hk _
        have hk' : (k : Int) < l.length := by omega
        have w1 := wrap_i64 ((k : Int) + 1) (by omega) (by omega)
        have h11 := f11 a
        have h12 := f12 a
        have r1 := spRows_get ha
        have g1 := spRows_got ha
        unfold c3b0
        by_cases hv : vl a
        · simp [evCode, evOps, evOne, evOp, evPur, evEff, evPur.chunks, fillP, AOp.isEff, AO.ev, putP, PV.cells, PV.leaf, getB, getM, mapE, keyC, mapRows, mfind, eq1, eqL, scal, binP, unP, minP, maxP, foldP, PV.lt, PV.lt.ltL, endP, expoAll, expo, expo.expoL, frIds, frIds.frIdsL, nodupN, kill, cls, clsFuel, resO, RV.get, loadP, evC_p, evC_s, endS, endT, rowsOf, callP, thinL, unfr, unfr.unfrL, PV.noMem, PV.noMem.noMemL, optI, mapO, norm, trimT, trimB, forget, hasN, blksLt, List.set, S3, eS, e1, r1, g1, hk, hk', w1, h11, h12, hv]
        · simp [evCode, evOps, evOne, evOp, evPur, evEff, evPur.chunks, fillP, AOp.isEff, AO.ev, putP, PV.cells, PV.leaf, getB, getM, mapE, keyC, mapRows, mfind, eq1, eqL, scal, binP, unP, minP, maxP, foldP, PV.lt, PV.lt.ltL, endP, expoAll, expo, expo.expoL, frIds, frIds.frIdsL, nodupN, kill, cls, clsFuel, resO, RV.get, loadP, evC_p, evC_s, endS, endT, rowsOf, callP, thinL, unfr, unfr.unfrL, PV.noMem, PV.noMem.noMemL, optI, mapO, norm, trimT, trimB, forget, hasN, blksLt, List.set, S3, eS, e1, r1, g1, hk, hk', w1, h11, h12, hv])
      (by intro k z _ _ h; cases h)
      (by
        intro s
        unfold c3b0
        simp [evCode, evOps, evOne, evOp, evPur, evEff, evPur.chunks, fillP, AOp.isEff, AO.ev, putP, PV.cells, PV.leaf, getB, getM, mapE, keyC, mapRows, mfind, eq1, eqL, scal, binP, unP, minP, maxP, foldP, PV.lt, PV.lt.ltL, endP, expoAll, expo, expo.expoL, frIds, frIds.frIdsL, nodupN, kill, cls, clsFuel, resO, RV.get, loadP, evC_p, evC_s, endS, endT, rowsOf, callP, thinL, unfr, unfr.unfrL, PV.noMem, PV.noMem.noMemL, optI, mapO, norm, trimT, trimB, forget, hasN, blksLt, List.set, S3, eS, e1])
      (by omega)
    have b1 := f14 x l (by omega)
    have b2 := f15 x l h
    have b3 := f13 false false (norF l) (norF l) (by omega)
    have b4 := f16 x l (by omega)
    have b5 := f17 x l (by omega)
    have b6 := f18 x l (by omega)
    have b7 := f19 x l h
    generalize norF l = A at *
    generalize lenF A = n at *
    generalize decide (Nrm l) = D at *
    simp only [eS, h, decide_true] at fw b1 b2 b3 b4 b5 b6 b7
    refine evE_intro 70 D3 rfl ?_
    unfold c3
    simp [evCode, evOps, evOne, evOp, evPur, evEff, evPur.chunks, fillP, AOp.isEff, AO.ev, putP, PV.cells, PV.leaf, getB, getM, mapE, keyC, mapRows, mfind, eq1, eqL, scal, binP, unP, minP, maxP, foldP, PV.lt, PV.lt.ltL, endP, expoAll, expo, expo.expoL, frIds, frIds.frIdsL, nodupN, kill, cls, clsFuel, resO, RV.get, loadP, evC_p, evC_s, endS, endT, rowsOf, callP, thinL, unfr, unfr.unfrL, PV.noMem, PV.noMem.noMemL, optI, mapO, norm, trimT, trimB, forget, hasN, blksLt, List.set, eS, aw, fw]
    generalize hE : evLoop _ _ _ _ _ = E
    rcases H _ _ hE (by simp [evCode, evOps, evOne, evOp, evPur, evEff, evPur.chunks, fillP, AOp.isEff, AO.ev, putP, PV.cells, PV.leaf, getB, getM, mapE, keyC, mapRows, mfind, eq1, eqL, scal, binP, unP, minP, maxP, foldP, PV.lt, PV.lt.ltL, endP, expoAll, expo, expo.expoL, frIds, frIds.frIdsL, nodupN, kill, cls, clsFuel, resO, RV.get, loadP, evC_p, evC_s, endS, endT, rowsOf, callP, thinL, unfr, unfr.unfrL, PV.noMem, PV.noMem.noMemL, optI, mapO, norm, trimT, trimB, forget, hasN, blksLt, List.set, S3, eS]) with ⟨_, g⟩ | ⟨q, _⟩
    · rw [g]
      unfold c3b0 c3r0
      simp [evCode, evOps, evOne, evOp, evPur, evEff, evPur.chunks, fillP, AOp.isEff, AO.ev, putP, PV.cells, PV.leaf, getB, getM, mapE, keyC, mapRows, mfind, eq1, eqL, scal, binP, unP, minP, maxP, foldP, PV.lt, PV.lt.ltL, endP, expoAll, expo, expo.expoL, frIds, frIds.frIdsL, nodupN, kill, cls, clsFuel, resO, RV.get, loadP, evC_p, evC_s, endS, endT, rowsOf, callP, thinL, unfr, unfr.unfrL, PV.noMem, PV.noMem.noMemL, optI, mapO, norm, trimT, trimB, forget, hasN, blksLt, List.set, S3, eS, e1, aw, b1, b2, b3, b4, b5, b6, b7]
    · rw [List.all_eq_false] at q
      obtain ⟨_, _, q⟩ := q
      exact absurd rfl q
  · simp only [h, decide_false, eS] at fw
    refine evE_intro 70 D3 rfl ?_
    unfold c3
    simp [evCode, evOps, evOne, evOp, evPur, evEff, evPur.chunks, fillP, AOp.isEff, AO.ev, putP, PV.cells, PV.leaf, getB, getM, mapE, keyC, mapRows, mfind, eq1, eqL, scal, binP, unP, minP, maxP, foldP, PV.lt, PV.lt.ltL, endP, expoAll, expo, expo.expoL, frIds, frIds.frIdsL, nodupN, kill, cls, clsFuel, resO, RV.get, loadP, evC_p, evC_s, endS, endT, rowsOf, callP, thinL, unfr, unfr.unfrL, PV.noMem, PV.noMem.noMemL, optI, mapO, norm, trimT, trimB, forget, hasN, blksLt, List.set, eS, aw, fw]
theorem law3 (ps : List PV) (h : ArgL Try.prog 12 [22] ps) : evE Dg 3 ps = some (.bool true) := by
  obtain ⟨p, rfl, h1⟩ := argL1 h
  obtain ⟨a, rfl⟩ := in_spans h1
  exact f3 false a
end Go.Proofs.Ytildbjepbnjbfaa
