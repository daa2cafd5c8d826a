/- spans: the functions that answer yes or no. -/
import Derived.Test.YtildbjepbnjbfaaEvP
import Derived.Test.YtildbjepbnjbfaaSpB
namespace Go.Proofs.Ytildbjepbnjbfaa
open Go Go.RowKit
set_option linter.unusedVariables false
set_option linter.unusedSimpArgs false
set_option maxHeartbeats 4000000

def eS (x : Bool) (l : List Sp) : PV := .sl x 2 (spRows l)
def eP (s : Sp) : PV := .agg [.int .i64 s.1, .int .i64 s.2]
theorem spRows_len (l : List Sp) : (spRows l).length = l.length := by simp [spRows]
theorem spRows_get {l : List Sp} {k : Nat} {s : Sp} (h : l[k]? = some s) : (spRows l)[k]? = some [.int .i64 s.1, .int .i64 s.2] := by simp [spRows, h]
theorem spRows_got {l : List Sp} {k : Nat} {s : Sp} (h : l[k]? = some s) : ∀ q, (spRows l)[k]'q = [.int .i64 s.1, .int .i64 s.2] := fun q => by
  have := spRows_get h
  rw [List.getElem?_eq_getElem q] at this
  exact Option.some.inj this
theorem spRows_app (a b : List Sp) : spRows (a ++ b) = spRows a ++ spRows b := by simp [spRows]

theorem f11 (s : Sp) : evE Dg 11 [.agg [.int .i64 s.1, .int .i64 s.2]] = some (.bool (decide (vl s))) := by
  refine evE_intro 3 D11 rfl ?_
  unfold c11
  by_cases h1 : 0 ≤ s.1
  · by_cases h2 : s.1 < s.2
    · by_cases h3 : s.2 ≤ 1000000000000
      · have hv : vl s := ⟨h1, h2, h3⟩
        simp [evCode, evOps, evOne, evOp, evPur, evEff, evPur.chunks, fillP, AOp.isEff, AO.ev, putP, PV.cells, PV.leaf, getB, getM, mapE, keyC, mapRows, mfind, eq1, eqL, scal, binP, unP, minP, maxP, foldP, PV.lt, PV.lt.ltL, endP, expoAll, expo, expo.expoL, frIds, frIds.frIdsL, nodupN, kill, cls, clsFuel, resO, RV.get, loadP, evC_p, evC_s, endS, endT, rowsOf, callP, thinL, unfr, unfr.unfrL, PV.noMem, PV.noMem.noMemL, optI, mapO, norm, trimT, trimB, forget, hasN, blksLt, List.set, h1, h2, h3, hv]
      · have hv : ¬ vl s := fun h => h3 h.2.2
        simp [evCode, evOps, evOne, evOp, evPur, evEff, evPur.chunks, fillP, AOp.isEff, AO.ev, putP, PV.cells, PV.leaf, getB, getM, mapE, keyC, mapRows, mfind, eq1, eqL, scal, binP, unP, minP, maxP, foldP, PV.lt, PV.lt.ltL, endP, expoAll, expo, expo.expoL, frIds, frIds.frIdsL, nodupN, kill, cls, clsFuel, resO, RV.get, loadP, evC_p, evC_s, endS, endT, rowsOf, callP, thinL, unfr, unfr.unfrL, PV.noMem, PV.noMem.noMemL, optI, mapO, norm, trimT, trimB, forget, hasN, blksLt, List.set, h1, h2, h3, hv]
    · have hv : ¬ vl s := fun h => h2 h.2.1
      simp [evCode, evOps, evOne, evOp, evPur, evEff, evPur.chunks, fillP, AOp.isEff, AO.ev, putP, PV.cells, PV.leaf, getB, getM, mapE, keyC, mapRows, mfind, eq1, eqL, scal, binP, unP, minP, maxP, foldP, PV.lt, PV.lt.ltL, endP, expoAll, expo, expo.expoL, frIds, frIds.frIdsL, nodupN, kill, cls, clsFuel, resO, RV.get, loadP, evC_p, evC_s, endS, endT, rowsOf, callP, thinL, unfr, unfr.unfrL, PV.noMem, PV.noMem.noMemL, optI, mapO, norm, trimT, trimB, forget, hasN, blksLt, List.set, h1, h2, hv]
  · have hv : ¬ vl s := fun h => h1 h.1
    simp [evCode, evOps, evOne, evOp, evPur, evEff, evPur.chunks, fillP, AOp.isEff, AO.ev, putP, PV.cells, PV.leaf, getB, getM, mapE, keyC, mapRows, mfind, eq1, eqL, scal, binP, unP, minP, maxP, foldP, PV.lt, PV.lt.ltL, endP, expoAll, expo, expo.expoL, frIds, frIds.frIdsL, nodupN, kill, cls, clsFuel, resO, RV.get, loadP, evC_p, evC_s, endS, endT, rowsOf, callP, thinL, unfr, unfr.unfrL, PV.noMem, PV.noMem.noMemL, optI, mapO, norm, trimT, trimB, forget, hasN, blksLt, List.set, h1, hv]
theorem f12 (s : Sp) : evE Dg 12 [.agg [.int .i64 s.1, .int .i64 s.2]] = some (.bool (decide (vl s))) := by
  refine evE_intro 3 D12 rfl ?_
  unfold c12
  by_cases h1 : 0 ≤ s.1
  · by_cases h2 : s.1 < s.2
    · by_cases h3 : s.2 ≤ 1000000000000
      · have hv : vl s := ⟨h1, h2, h3⟩
        simp [evCode, evOps, evOne, evOp, evPur, evEff, evPur.chunks, fillP, AOp.isEff, AO.ev, putP, PV.cells, PV.leaf, getB, getM, mapE, keyC, mapRows, mfind, eq1, eqL, scal, binP, unP, minP, maxP, foldP, PV.lt, PV.lt.ltL, endP, expoAll, expo, expo.expoL, frIds, frIds.frIdsL, nodupN, kill, cls, clsFuel, resO, RV.get, loadP, evC_p, evC_s, endS, endT, rowsOf, callP, thinL, unfr, unfr.unfrL, PV.noMem, PV.noMem.noMemL, optI, mapO, norm, trimT, trimB, forget, hasN, blksLt, List.set, h1, h2, h3, hv]
      · have hv : ¬ vl s := fun h => h3 h.2.2
        simp [evCode, evOps, evOne, evOp, evPur, evEff, evPur.chunks, fillP, AOp.isEff, AO.ev, putP, PV.cells, PV.leaf, getB, getM, mapE, keyC, mapRows, mfind, eq1, eqL, scal, binP, unP, minP, maxP, foldP, PV.lt, PV.lt.ltL, endP, expoAll, expo, expo.expoL, frIds, frIds.frIdsL, nodupN, kill, cls, clsFuel, resO, RV.get, loadP, evC_p, evC_s, endS, endT, rowsOf, callP, thinL, unfr, unfr.unfrL, PV.noMem, PV.noMem.noMemL, optI, mapO, norm, trimT, trimB, forget, hasN, blksLt, List.set, h1, h2, h3, hv]
    · have hv : ¬ vl s := fun h => h2 h.2.1
      simp [evCode, evOps, evOne, evOp, evPur, evEff, evPur.chunks, fillP, AOp.isEff, AO.ev, putP, PV.cells, PV.leaf, getB, getM, mapE, keyC, mapRows, mfind, eq1, eqL, scal, binP, unP, minP, maxP, foldP, PV.lt, PV.lt.ltL, endP, expoAll, expo, expo.expoL, frIds, frIds.frIdsL, nodupN, kill, cls, clsFuel, resO, RV.get, loadP, evC_p, evC_s, endS, endT, rowsOf, callP, thinL, unfr, unfr.unfrL, PV.noMem, PV.noMem.noMemL, optI, mapO, norm, trimT, trimB, forget, hasN, blksLt, List.set, h1, h2, hv]
  · have hv : ¬ vl s := fun h => h1 h.1
    simp [evCode, evOps, evOne, evOp, evPur, evEff, evPur.chunks, fillP, AOp.isEff, AO.ev, putP, PV.cells, PV.leaf, getB, getM, mapE, keyC, mapRows, mfind, eq1, eqL, scal, binP, unP, minP, maxP, foldP, PV.lt, PV.lt.ltL, endP, expoAll, expo, expo.expoL, frIds, frIds.frIdsL, nodupN, kill, cls, clsFuel, resO, RV.get, loadP, evC_p, evC_s, endS, endT, rowsOf, callP, thinL, unfr, unfr.unfrL, PV.noMem, PV.noMem.noMemL, optI, mapO, norm, trimT, trimB, forget, hasN, blksLt, List.set, h1, hv]

def S13 (x y : Bool) (a b : List Sp) (k : Nat) : St := ⟨[eS x a, eS y b, .top, .top, .top, .int .i64 k] ++ List.replicate 20 .top, []⟩
theorem zip_get {α β : Type} {a : List α} {b : List β} {k : Nat} {p : α × β} (h : (a.zip b)[k]? = some p) : a[k]? = some p.1 ∧ b[k]? = some p.2 := by
  rw [List.getElem?_zip_eq_some] at h
  exact h
theorem zip_all {α : Type} [DecidableEq α] : ∀ {a b : List α}, a.length = b.length → ((a.zip b).all (fun p => decide (p.1 = p.2)) = true ↔ a = b)
  | [], [], _ => by simp
  | x :: a, [], h => by simp at h
  | [], y :: b, h => by simp at h
  | x :: a, y :: b, h => by
    have ih := zip_all (a := a) (b := b) (by simpa using h)
    simp only [List.zip_cons_cons, List.all_cons, Bool.and_eq_true, decide_eq_true_eq, ih, List.cons.injEq]
theorem f13 (x y : Bool) (a b : List Sp) (ha : a.length ≤ 1000000) : evE Dg 13 [eS x a, eS y b] = some (.bool (decide (a = b))) := by
  have e1 := spRows_len a
  by_cases hl : a.length = b.length
  · have e2 : (spRows b).length = a.length := by rw [spRows_len, hl]
    have hz : (a.zip b).length = a.length := by simp [hl]
    have H := loop_all (body := evCode (evC Dg) (a.length + 1) c13b0) (keep := [0, 1, 5]) (n0 := 0) (fuel := a.length + 1) (a.zip b) (S13 x y a b) (fun p => decide (p.1 = p.2)) (fun t => t.sl[4]?.getD .top = .bool false)
      (by
        rintro k ⟨s, u⟩ hp hk hq
        obtain ⟨h1, h2⟩ := zip_get hp
        simp only [decide_eq_true_eq] at h1 h2 hq
        subst hq
        rw [hz] at hk
        have r1 := spRows_get h1
        have r2 := spRows_get h2
        have g1 := spRows_got h1
        have g2 := spRows_got h2
        have hk' : (k : Int) < a.length := by omega
        have w1 := wrap_i64 ((k : Int) + 1) (by omega) (by omega)
        unfold c13b0
        simp [evCode, evOps, evOne, evOp, evPur, evEff, evPur.chunks, fillP, AOp.isEff, AO.ev, putP, PV.cells, PV.leaf, getB, getM, mapE, keyC, mapRows, mfind, eq1, eqL, scal, binP, unP, minP, maxP, foldP, PV.lt, PV.lt.ltL, endP, expoAll, expo, expo.expoL, frIds, frIds.frIdsL, nodupN, kill, cls, clsFuel, resO, RV.get, loadP, evC_p, evC_s, endS, endT, rowsOf, callP, thinL, unfr, unfr.unfrL, PV.noMem, PV.noMem.noMemL, optI, mapO, norm, trimT, trimB, forget, hasN, blksLt, List.set, S13, eS, e1, e2, r1, r2, g1, g2, hk', hk, w1])
      (by
        rintro k ⟨s, u⟩ hp hk hq
        obtain ⟨h1, h2⟩ := zip_get hp
        simp only [decide_eq_false_iff_not] at h1 h2 hq
        rw [hz] at hk
        have r1 := spRows_get h1
        have r2 := spRows_get h2
        have g1 := spRows_got h1
        have g2 := spRows_got h2
        have hk' : (k : Int) < a.length := by omega
        have hne : s.1 = u.1 → ¬ s.2 = u.2 := fun h h' => hq (Prod.ext h h')
        unfold c13b0
        by_cases h : s.1 = u.1
        · have h' := hne h
          simp [evCode, evOps, evOne, evOp, evPur, evEff, evPur.chunks, fillP, AOp.isEff, AO.ev, putP, PV.cells, PV.leaf, getB, getM, mapE, keyC, mapRows, mfind, eq1, eqL, scal, binP, unP, minP, maxP, foldP, PV.lt, PV.lt.ltL, endP, expoAll, expo, expo.expoL, frIds, frIds.frIdsL, nodupN, kill, cls, clsFuel, resO, RV.get, loadP, evC_p, evC_s, endS, endT, rowsOf, callP, thinL, unfr, unfr.unfrL, PV.noMem, PV.noMem.noMemL, optI, mapO, norm, trimT, trimB, forget, hasN, blksLt, List.set, S13, eS, e1, e2, r1, r2, g1, g2, hk', hk, h, h']
        · simp [evCode, evOps, evOne, evOp, evPur, evEff, evPur.chunks, fillP, AOp.isEff, AO.ev, putP, PV.cells, PV.leaf, getB, getM, mapE, keyC, mapRows, mfind, eq1, eqL, scal, binP, unP, minP, maxP, foldP, PV.lt, PV.lt.ltL, endP, expoAll, expo, expo.expoL, frIds, frIds.frIdsL, nodupN, kill, cls, clsFuel, resO, RV.get, loadP, evC_p, evC_s, endS, endT, rowsOf, callP, thinL, unfr, unfr.unfrL, PV.noMem, PV.noMem.noMemL, optI, mapO, norm, trimT, trimB, forget, hasN, blksLt, List.set, S13, eS, e1, e2, r1, r2, g1, g2, hk', hk, h])
      (by
        intro s
        rw [hz]
        unfold c13b0
        simp [evCode, evOps, evOne, evOp, evPur, evEff, evPur.chunks, fillP, AOp.isEff, AO.ev, putP, PV.cells, PV.leaf, getB, getM, mapE, keyC, mapRows, mfind, eq1, eqL, scal, binP, unP, minP, maxP, foldP, PV.lt, PV.lt.ltL, endP, expoAll, expo, expo.expoL, frIds, frIds.frIdsL, nodupN, kill, cls, clsFuel, resO, RV.get, loadP, evC_p, evC_s, endS, endT, rowsOf, callP, thinL, unfr, unfr.unfrL, PV.noMem, PV.noMem.noMemL, optI, mapO, norm, trimT, trimB, forget, hasN, blksLt, List.set, S13, eS, e1, e2])
      (by rw [hz]; omega)
    refine evE_intro (a.length + 1) D13 rfl ?_
    unfold c13
    simp [evCode, evOps, evOne, evOp, evPur, evEff, evPur.chunks, fillP, AOp.isEff, AO.ev, putP, PV.cells, PV.leaf, getB, getM, mapE, keyC, mapRows, mfind, eq1, eqL, scal, binP, unP, minP, maxP, foldP, PV.lt, PV.lt.ltL, endP, expoAll, expo, expo.expoL, frIds, frIds.frIdsL, nodupN, kill, cls, clsFuel, resO, RV.get, loadP, evC_p, evC_s, endS, endT, rowsOf, callP, thinL, unfr, unfr.unfrL, PV.noMem, PV.noMem.noMemL, optI, mapO, norm, trimT, trimB, forget, hasN, blksLt, List.set, eS, e1, e2]
    generalize hE : evLoop _ _ _ _ _ = E
    rcases H _ _ hE (by simp [evCode, evOps, evOne, evOp, evPur, evEff, evPur.chunks, fillP, AOp.isEff, AO.ev, putP, PV.cells, PV.leaf, getB, getM, mapE, keyC, mapRows, mfind, eq1, eqL, scal, binP, unP, minP, maxP, foldP, PV.lt, PV.lt.ltL, endP, expoAll, expo, expo.expoL, frIds, frIds.frIdsL, nodupN, kill, cls, clsFuel, resO, RV.get, loadP, evC_p, evC_s, endS, endT, rowsOf, callP, thinL, unfr, unfr.unfrL, PV.noMem, PV.noMem.noMemL, optI, mapO, norm, trimT, trimB, forget, hasN, blksLt, List.set, S13, eS]) with ⟨q1, q2⟩ | ⟨q1, s, q2, q3⟩
    · rw [zip_all hl] at q1
      subst q1
      rw [q2, hz]
      unfold c13b0
      simp [evCode, evOps, evOne, evOp, evPur, evEff, evPur.chunks, fillP, AOp.isEff, AO.ev, putP, PV.cells, PV.leaf, getB, getM, mapE, keyC, mapRows, mfind, eq1, eqL, scal, binP, unP, minP, maxP, foldP, PV.lt, PV.lt.ltL, endP, expoAll, expo, expo.expoL, frIds, frIds.frIdsL, nodupN, kill, cls, clsFuel, resO, RV.get, loadP, evC_p, evC_s, endS, endT, rowsOf, callP, thinL, unfr, unfr.unfrL, PV.noMem, PV.noMem.noMemL, optI, mapO, norm, trimT, trimB, forget, hasN, blksLt, List.set, S13, eS, e1, e2]
    · have : ¬ a = b := fun h => by rw [(zip_all hl).2 h] at q1; cases q1
      rw [q2]
      simp [evCode, evOps, evOne, evOp, evPur, evEff, evPur.chunks, fillP, AOp.isEff, AO.ev, putP, PV.cells, PV.leaf, getB, getM, mapE, keyC, mapRows, mfind, eq1, eqL, scal, binP, unP, minP, maxP, foldP, PV.lt, PV.lt.ltL, endP, expoAll, expo, expo.expoL, frIds, frIds.frIdsL, nodupN, kill, cls, clsFuel, resO, RV.get, loadP, evC_p, evC_s, endS, endT, rowsOf, callP, thinL, unfr, unfr.unfrL, PV.noMem, PV.noMem.noMemL, optI, mapO, norm, trimT, trimB, forget, hasN, blksLt, List.set, q3, this]
  · have : ¬ a = b := fun h => hl (by rw [h])
    have hl' : ¬ ((a.length : Int) = b.length) := by omega
    have e2 := spRows_len b
    refine evE_intro (a.length + 1) D13 rfl ?_
    unfold c13
    simp [evCode, evOps, evOne, evOp, evPur, evEff, evPur.chunks, fillP, AOp.isEff, AO.ev, putP, PV.cells, PV.leaf, getB, getM, mapE, keyC, mapRows, mfind, eq1, eqL, scal, binP, unP, minP, maxP, foldP, PV.lt, PV.lt.ltL, endP, expoAll, expo, expo.expoL, frIds, frIds.frIdsL, nodupN, kill, cls, clsFuel, resO, RV.get, loadP, evC_p, evC_s, endS, endT, rowsOf, callP, thinL, unfr, unfr.unfrL, PV.noMem, PV.noMem.noMemL, optI, mapO, norm, trimT, trimB, forget, hasN, blksLt, List.set, eS, e1, e2, hl, hl', this]

/-- what IsNormal asks of a place -/
def okN (l : List Sp) (k : Nat) (s : Sp) : Prop := vl s ∧ ∀ j u, k = j + 1 → l[j]? = some u → u.2 < s.1
noncomputable def qN (l : List Sp) (k : Nat) (s : Sp) : Int := by classical exact if okN l k s then 0 else 1
theorem qN_zero {l : List Sp} {k : Nat} {s : Sp} : qN l k s = 0 ↔ okN l k s := by
  unfold qN; split <;> simp_all
theorem firstF_z {α : Type} {f : Nat → α → Int} : ∀ {r : List α} {k : Nat}, firstF f r k = 0 ↔ ∀ i a, r[i]? = some a → f (k + i) a = 0
  | [], k => by simp [firstF]
  | a :: r, k => by
    unfold firstF
    by_cases h : f k a = 0
    · rw [if_pos h, firstF_z (r := r) (k := k + 1)]
      constructor
      · intro q i b hb
        cases i with
        | zero => simp at hb; subst hb; exact h
        | succ i => have := q i b (by simpa using hb); rwa [show k + 1 + i = k + (i + 1) by omega] at this
      · intro q i b hb
        have := q (i + 1) b (by simpa using hb)
        rwa [show k + (i + 1) = k + 1 + i by omega] at this
    · rw [if_neg h]
      constructor
      · exact fun q => absurd q h
      · intro q
        exact absurd (q 0 a rfl) h
theorem nrm_iff {l : List Sp} : firstF (qN l) l 0 = 0 ↔ Nrm l := by
  rw [firstF_z]
  simp only [Nat.zero_add, qN_zero]
  constructor
  · intro h
    refine ⟨fun s hs => ?_, ?_⟩
    · obtain ⟨i, hi⟩ := List.getElem?_of_mem hs
      exact (h i s hi).1
    · have key : ∀ (r p : List Sp), l = p ++ r → r.Pairwise (fun a b => a.2 < b.1) := by
        intro r
        induction r with
        | nil => intro p _; exact .nil
        | cons s r ih =>
          intro p hp
          have t := ih (p ++ [s]) (by rw [hp]; simp)
          refine List.pairwise_cons.2 ⟨fun u hu => ?_, t⟩
          cases r with
          | nil => simp at hu
          | cons v r =>
            have a1 := h (p.length + 1) v (by rw [hp]; simp)
            have a2 := a1.2 p.length s rfl (by rw [hp]; simp)
            rcases List.mem_cons.1 hu with rfl | hu
            · exact a2
            · have := (List.pairwise_cons.1 t).1 u hu
              have := a1.1.2.1
              omega
      exact key l [] rfl
  · rintro ⟨h1, h2⟩ i s hi
    refine ⟨h1 s (List.mem_of_getElem? hi), fun j u hj hu => ?_⟩
    subst hj
    have hlt := (List.getElem?_eq_some_iff.1 hi).1
    have := List.pairwise_iff_getElem.1 h2 j (j + 1) (by omega) hlt (by omega)
    rw [(List.getElem?_eq_some_iff.1 hi).2, (List.getElem?_eq_some_iff.1 hu).2] at this
    exact this
noncomputable instance (l : List Sp) : Decidable (Nrm l) := Classical.propDecidable _

def S16 (x : Bool) (l : List Sp) (k : Nat) : St := ⟨[eS x l, .top, .top, .top, .top, eS x l, .int .i64 l.length, .int .i64 k] ++ List.replicate 23 .top, []⟩
theorem f16 (x : Bool) (l : List Sp) (hl : l.length ≤ 1000000) : evE Dg 16 [eS x l] = some (.bool (decide (Nrm l))) := by
  have e1 := spRows_len l
  have H := loop_first (body := evCode (evC Dg) (l.length + 1) c16b0) (keep := [0, 5, 6, 7]) (n0 := 0) (fuel := l.length + 1) l (S16 x l) (qN l) (fun e t => t.sl[2]?.getD .top = .bool false)
    (by
      intro k a ha hk hq
      rw [qN_zero] at hq
      have hv := hq.1
      have hk' : (k : Int) < l.length := by omega
      have w1 := wrap_i64 ((k : Int) + 1) (by omega) (by omega)
      have h11 := f11 a
      have r1 := spRows_get ha
      have g1 := spRows_got ha
      unfold c16b0
      by_cases k0 : k = 0
      · have k1 : ¬ (0 < k) := by omega
        have k1' : ¬ (0 < (k : Int)) := by omega
        simp [evCode, evOps, evOne, evOp, evPur, evEff, evPur.chunks, fillP, AOp.isEff, AO.ev, putP, PV.cells, PV.leaf, getB, getM, mapE, keyC, mapRows, mfind, eq1, eqL, scal, binP, unP, minP, maxP, foldP, PV.lt, PV.lt.ltL, endP, expoAll, expo, expo.expoL, frIds, frIds.frIdsL, nodupN, kill, cls, clsFuel, resO, RV.get, loadP, evC_p, evC_s, endS, endT, rowsOf, callP, thinL, unfr, unfr.unfrL, PV.noMem, PV.noMem.noMemL, optI, mapO, norm, trimT, trimB, forget, hasN, blksLt, List.set, S16, eS, e1, r1, g1, hk, hk', w1, h11, hv, k1, k1']
      · obtain ⟨j, hj⟩ : ∃ j, k = j + 1 := ⟨k - 1, by omega⟩
        obtain ⟨b, hb⟩ : ∃ b, l[j]? = some b := ⟨_, List.getElem?_eq_getElem (by omega)⟩
        have c3 : ¬ (a.1 ≤ b.2) := by have := hq.2 j b hj hb; omega
        have w : IntKind.i64.wrap ((k : Int) - 1) = (j : Int) := by rw [hj, wrap_i64 _ (by omega) (by omega)]; omega
        have k1 : 0 < k := by omega
        have k1' : 0 < (k : Int) := by omega
        have r2 := spRows_get hb
        have g2 := spRows_got hb
        have hjl : j < l.length := by omega
        simp [evCode, evOps, evOne, evOp, evPur, evEff, evPur.chunks, fillP, AOp.isEff, AO.ev, putP, PV.cells, PV.leaf, getB, getM, mapE, keyC, mapRows, mfind, eq1, eqL, scal, binP, unP, minP, maxP, foldP, PV.lt, PV.lt.ltL, endP, expoAll, expo, expo.expoL, frIds, frIds.frIdsL, nodupN, kill, cls, clsFuel, resO, RV.get, loadP, evC_p, evC_s, endS, endT, rowsOf, callP, thinL, unfr, unfr.unfrL, PV.noMem, PV.noMem.noMemL, optI, mapO, norm, trimT, trimB, forget, hasN, blksLt, List.set, S16, eS, e1, r1, g1, r2, g2, hjl, hk, hk', w1, h11, hv, k1, k1', w, c3])
    (by
      intro k a ha hk hq
      have hk' : (k : Int) < l.length := by omega
      have h11 := f11 a
      have r1 := spRows_get ha
      have g1 := spRows_got ha
      unfold c16b0
      by_cases hv : vl a
      · have hk0 : ∃ j b, k = j + 1 ∧ l[j]? = some b ∧ a.1 ≤ b.2 := by
          refine Classical.byContradiction fun hn => hq (qN_zero.2 ⟨hv, fun j u hj hu => ?_⟩)
          refine Decidable.byContradiction fun hh => hn ⟨j, u, hj, hu, by omega⟩
        obtain ⟨j, b, hj, hb, c3⟩ := hk0
        have w : IntKind.i64.wrap ((k : Int) - 1) = (j : Int) := by rw [hj, wrap_i64 _ (by omega) (by omega)]; omega
        have k1 : 0 < k := by omega
        have k1' : 0 < (k : Int) := by omega
        have r2 := spRows_get hb
        have g2 := spRows_got hb
        have hjl : j < l.length := by omega
        simp [evCode, evOps, evOne, evOp, evPur, evEff, evPur.chunks, fillP, AOp.isEff, AO.ev, putP, PV.cells, PV.leaf, getB, getM, mapE, keyC, mapRows, mfind, eq1, eqL, scal, binP, unP, minP, maxP, foldP, PV.lt, PV.lt.ltL, endP, expoAll, expo, expo.expoL, frIds, frIds.frIdsL, nodupN, kill, cls, clsFuel, resO, RV.get, loadP, evC_p, evC_s, endS, endT, rowsOf, callP, thinL, unfr, unfr.unfrL, PV.noMem, PV.noMem.noMemL, optI, mapO, norm, trimT, trimB, forget, hasN, blksLt, List.set, S16, eS, e1, r1, g1, r2, g2, hjl, hk, hk', h11, hv, k1, k1', w, c3]
      · simp [evCode, evOps, evOne, evOp, evPur, evEff, evPur.chunks, fillP, AOp.isEff, AO.ev, putP, PV.cells, PV.leaf, getB, getM, mapE, keyC, mapRows, mfind, eq1, eqL, scal, binP, unP, minP, maxP, foldP, PV.lt, PV.lt.ltL, endP, expoAll, expo, expo.expoL, frIds, frIds.frIdsL, nodupN, kill, cls, clsFuel, resO, RV.get, loadP, evC_p, evC_s, endS, endT, rowsOf, callP, thinL, unfr, unfr.unfrL, PV.noMem, PV.noMem.noMemL, optI, mapO, norm, trimT, trimB, forget, hasN, blksLt, List.set, S16, eS, e1, r1, g1, hk, hk', h11, hv])
    (by
      intro s
      unfold c16b0
      simp [evCode, evOps, evOne, evOp, evPur, evEff, evPur.chunks, fillP, AOp.isEff, AO.ev, putP, PV.cells, PV.leaf, getB, getM, mapE, keyC, mapRows, mfind, eq1, eqL, scal, binP, unP, minP, maxP, foldP, PV.lt, PV.lt.ltL, endP, expoAll, expo, expo.expoL, frIds, frIds.frIdsL, nodupN, kill, cls, clsFuel, resO, RV.get, loadP, evC_p, evC_s, endS, endT, rowsOf, callP, thinL, unfr, unfr.unfrL, PV.noMem, PV.noMem.noMemL, optI, mapO, norm, trimT, trimB, forget, hasN, blksLt, List.set, S16, eS, e1])
    (by omega)
  refine evE_intro (l.length + 1) D16 rfl ?_
  unfold c16
  simp [evCode, evOps, evOne, evOp, evPur, evEff, evPur.chunks, fillP, AOp.isEff, AO.ev, putP, PV.cells, PV.leaf, getB, getM, mapE, keyC, mapRows, mfind, eq1, eqL, scal, binP, unP, minP, maxP, foldP, PV.lt, PV.lt.ltL, endP, expoAll, expo, expo.expoL, frIds, frIds.frIdsL, nodupN, kill, cls, clsFuel, resO, RV.get, loadP, evC_p, evC_s, endS, endT, rowsOf, callP, thinL, unfr, unfr.unfrL, PV.noMem, PV.noMem.noMemL, optI, mapO, norm, trimT, trimB, forget, hasN, blksLt, List.set, eS, e1]
  generalize hE : evLoop _ _ _ _ _ = E
  rcases H _ _ hE (by simp [evCode, evOps, evOne, evOp, evPur, evEff, evPur.chunks, fillP, AOp.isEff, AO.ev, putP, PV.cells, PV.leaf, getB, getM, mapE, keyC, mapRows, mfind, eq1, eqL, scal, binP, unP, minP, maxP, foldP, PV.lt, PV.lt.ltL, endP, expoAll, expo, expo.expoL, frIds, frIds.frIdsL, nodupN, kill, cls, clsFuel, resO, RV.get, loadP, evC_p, evC_s, endS, endT, rowsOf, callP, thinL, unfr, unfr.unfrL, PV.noMem, PV.noMem.noMemL, optI, mapO, norm, trimT, trimB, forget, hasN, blksLt, List.set, S16, eS]) with ⟨q1, q2⟩ | ⟨q1, s, q2, q3⟩
  · have hn := nrm_iff.1 q1
    rw [q2]
    unfold c16b0
    simp [evCode, evOps, evOne, evOp, evPur, evEff, evPur.chunks, fillP, AOp.isEff, AO.ev, putP, PV.cells, PV.leaf, getB, getM, mapE, keyC, mapRows, mfind, eq1, eqL, scal, binP, unP, minP, maxP, foldP, PV.lt, PV.lt.ltL, endP, expoAll, expo, expo.expoL, frIds, frIds.frIdsL, nodupN, kill, cls, clsFuel, resO, RV.get, loadP, evC_p, evC_s, endS, endT, rowsOf, callP, thinL, unfr, unfr.unfrL, PV.noMem, PV.noMem.noMemL, optI, mapO, norm, trimT, trimB, forget, hasN, blksLt, List.set, S16, eS, e1, hn]
  · have hn : ¬ Nrm l := fun h => q1 (nrm_iff.2 h)
    rw [q2]
    simp [evCode, evOps, evOne, evOp, evPur, evEff, evPur.chunks, fillP, AOp.isEff, AO.ev, putP, PV.cells, PV.leaf, getB, getM, mapE, keyC, mapRows, mfind, eq1, eqL, scal, binP, unP, minP, maxP, foldP, PV.lt, PV.lt.ltL, endP, expoAll, expo, expo.expoL, frIds, frIds.frIdsL, nodupN, kill, cls, clsFuel, resO, RV.get, loadP, evC_p, evC_s, endS, endT, rowsOf, callP, thinL, unfr, unfr.unfrL, PV.noMem, PV.noMem.noMemL, optI, mapO, norm, trimT, trimB, forget, hasN, blksLt, List.set, q3, hn]
theorem f16_nil : evE Dg 16 [.nilS] = some (.bool true) := evE_of (n := 5) (by kernel_rfl)
end Go.Proofs.Ytildbjepbnjbfaa
