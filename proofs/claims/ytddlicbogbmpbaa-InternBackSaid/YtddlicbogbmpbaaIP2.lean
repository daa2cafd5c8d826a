/- intern: Check. -/
import Derived.Test.YtddlicbogbmpbaaIP1
import Derived.Test.YtddlicbogbmpbaaNm
namespace Go.Proofs.Ytddlicbogbmpbaa
open Go Go.RowKit
set_option linter.unusedVariables false
set_option linter.unusedSimpArgs false
set_option maxHeartbeats 2000000

theorem eTx_eq (l : List (List UInt8)) : eTx l = eN false l := rfl

theorem loop_stop {σ : Type} {body : St → Option Out} {keep : List Nat} {n0 : Nat} (S : σ → St) (μ : σ → Nat) (I : σ → Prop) (stop : σ → Prop)
    (h : ∀ x, I x → ¬ stop x → ∃ x' s', body (S x) = some (.normal s') ∧ norm keep n0 s' = S x' ∧ I x' ∧ μ x' < μ x) (hs : ∀ x, I x → stop x → ∀ s, body (S x) ≠ some (.normal s))
    {fuel : Nat} (x0 : σ) (hI0 : I x0) (hf : μ x0 < fuel) (s0 : St) (E : Option Out) (hE : evLoop body keep n0 fuel s0 = E) (h0 : norm keep n0 s0 = S x0) : ∃ x, I x ∧ stop x ∧ E = body (S x) := by
  subst hE
  induction fuel generalizing x0 s0 with
  | zero => omega
  | succ f ih =>
    by_cases hst : stop x0
    · refine ⟨x0, hI0, hst, ?_⟩
      rw [evLoop, h0]
      have := hs x0 hI0 hst
      split
      · rename_i s hb; exact absurd hb (this s)
      · rfl
    · obtain ⟨x', s', h1, h2, h3, h4⟩ := h x0 hI0 hst
      rw [evLoop, h0, h1]
      exact ih x' h3 (by omega) s' h2

def mrow (t : List UInt8) : List PV := [.str t, .bool true]
theorem mfind_no {l : List (List UInt8)} {s : List UInt8} (h : ¬ s ∈ l) : ∀ i, mfind [.s] false [.str s] (l.map mrow) i = some none := by
  induction l with
  | nil => intro i; rfl
  | cons a l ih =>
    intro i
    simp at h
    have : (s == a) = false := by simpa using h.1
    simp [mrow, mfind, keyC, eqL, eq1, this]
    exact ih h.2 (i + 1)
theorem mfind_yes {l : List (List UInt8)} {s : List UInt8} (h : s ∈ l) : ∀ i, ∃ j, mfind [.s] false [.str s] (l.map mrow) i = some (some (j, .bool true)) := by
  induction l with
  | nil => simp at h
  | cons a l ih =>
    intro i
    by_cases e : s = a
    · subst e
      exact ⟨i, by simp [mrow, mfind, keyC, eqL, eq1]⟩
    · have : (s == a) = false := by simpa using e
      simp [e] at h
      obtain ⟨j, hj⟩ := ih h (i + 1)
      exact ⟨j, by simp [mrow, mfind, keyC, eqL, eq1, this]; exact hj⟩

def errN (n : List (List UInt8)) (k : Nat) (a : List UInt8) : Int := if nameOk a then (if a ∈ n.take k then 4 else 0) else 3
def chkN (n : List (List UInt8)) : Int := firstF (errN n) n 0

def S28 (ex : Bool) (n : List (List UInt8)) (k : Nat) : St := ⟨[.top, .top, .top, .mp 0 0, .top, .top, .top, .top, .top, .top, eN ex n, .int .i64 n.length, .int .i64 k] ++ List.replicate 14 .top, [some ⟨0, mapE, true, (n.map mrow).take k⟩]⟩
theorem take_map {α β : Type} {f : α → β} {n : List α} {k : Nat} {a : α} (ha : n[k]? = some a) : (n.map f).take (k + 1) = (n.map f).take k ++ [f a] := by
  rw [List.take_add_one, List.getElem?_map, ha]; simp

theorem f28 (ex : Bool) (n : List (List UInt8)) (hl : n.length ≤ 1000000) : evE Dg 28 [eN ex n] = some (.int .i64 (chkN n)) := by
  refine evE_intro (n.length + 1) D28 rfl ?_
  have H := loop_first (body := evCode (evC Dg) (n.length + 1) c28b0) (keep := [3, 10, 11, 12]) (n0 := 1) (fuel := n.length + 1) n (S28 ex n) (errN n) (fun e t => t.sl[2]?.getD .top = .int .i64 e)
    (by
      intro k a ha hk hq
      have hk' : (k : Int) < n.length := by omega
      have h1 := wrap_i64 ((k : Int) + 1) (by omega) (by omega)
      have h10 := f10 a
      unfold errN at hq
      by_cases c1 : nameOk a = true
      · by_cases c2 : a ∈ n.take k
        · simp [c1, c2] at hq
        · have hm := mfind_no c2 0
          rw [List.map_take] at hm
          have ht := take_map (f := mrow) ha
          simp only [nameE, c1, if_true] at h10
          unfold c28b0
          simp [evCode, evOps, evOne, evOp, evPur, evEff, evPur.chunks, fillP, AOp.isEff, AO.ev, putP, PV.cells, PV.leaf, getB, getM, mapE, keyC, mapRows, mfind, eq1, eqL, scal, binP, unP, minP, maxP, foldP, PV.lt, PV.lt.ltL, endP, expoAll, expo, expo.expoL, frIds, frIds.frIdsL, nodupN, kill, cls, clsFuel, resO, RV.get, loadP, evC_p, evC_s, endS, endT, rowsOf, callP, thinL, unfr, unfr.unfrL, PV.noMem, PV.noMem.noMemL, optI, mapO, norm, trimT, trimB, forget, hasN, blksLt, List.set, S28, eN, ha, hk', h1, h10, hm, ht]
          simp [mrow]
      · simp [c1] at hq)
    (by
      intro k a ha hk hq
      have hk' : (k : Int) < n.length := by omega
      have h10 := f10 a
      unfold errN at hq ⊢
      by_cases c1 : nameOk a = true
      · by_cases c2 : a ∈ n.take k
        · obtain ⟨j, hm⟩ := mfind_yes c2 0
          rw [List.map_take] at hm
          simp only [nameE, c1, if_true] at h10
          unfold c28b0
          simp [evCode, evOps, evOne, evOp, evPur, evEff, evPur.chunks, fillP, AOp.isEff, AO.ev, putP, PV.cells, PV.leaf, getB, getM, mapE, keyC, mapRows, mfind, eq1, eqL, scal, binP, unP, minP, maxP, foldP, PV.lt, PV.lt.ltL, endP, expoAll, expo, expo.expoL, frIds, frIds.frIdsL, nodupN, kill, cls, clsFuel, resO, RV.get, loadP, evC_p, evC_s, endS, endT, rowsOf, callP, thinL, unfr, unfr.unfrL, PV.noMem, PV.noMem.noMemL, optI, mapO, norm, trimT, trimB, forget, hasN, blksLt, List.set, S28, eN, ha, hk', h10, hm, c1, c2]
        · simp [c1, c2] at hq
      · have c1' : nameOk a = false := by simpa using c1
        simp only [nameE, c1', Bool.false_eq_true, if_false] at h10
        unfold c28b0
        simp [evCode, evOps, evOne, evOp, evPur, evEff, evPur.chunks, fillP, AOp.isEff, AO.ev, putP, PV.cells, PV.leaf, getB, getM, mapE, keyC, mapRows, mfind, eq1, eqL, scal, binP, unP, minP, maxP, foldP, PV.lt, PV.lt.ltL, endP, expoAll, expo, expo.expoL, frIds, frIds.frIdsL, nodupN, kill, cls, clsFuel, resO, RV.get, loadP, evC_p, evC_s, endS, endT, rowsOf, callP, thinL, unfr, unfr.unfrL, PV.noMem, PV.noMem.noMemL, optI, mapO, norm, trimT, trimB, forget, hasN, blksLt, List.set, S28, eN, ha, hk', h10, c1'])
    (by
      intro t
      unfold c28b0
      simp [evCode, evOps, evOne, evOp, evPur, evEff, evPur.chunks, fillP, AOp.isEff, AO.ev, putP, PV.cells, PV.leaf, getB, getM, mapE, keyC, mapRows, mfind, eq1, eqL, scal, binP, unP, minP, maxP, foldP, PV.lt, PV.lt.ltL, endP, expoAll, expo, expo.expoL, frIds, frIds.frIdsL, nodupN, kill, cls, clsFuel, resO, RV.get, loadP, evC_p, evC_s, endS, endT, rowsOf, callP, thinL, unfr, unfr.unfrL, PV.noMem, PV.noMem.noMemL, optI, mapO, norm, trimT, trimB, forget, hasN, blksLt, List.set, S28, eN]) (by omega)
  unfold c28
  simp [evCode, evOps, evOne, evOp, evPur, evEff, evPur.chunks, fillP, AOp.isEff, AO.ev, putP, PV.cells, PV.leaf, getB, getM, mapE, keyC, mapRows, mfind, eq1, eqL, scal, binP, unP, minP, maxP, foldP, PV.lt, PV.lt.ltL, endP, expoAll, expo, expo.expoL, frIds, frIds.frIdsL, nodupN, kill, cls, clsFuel, resO, RV.get, loadP, evC_p, evC_s, endS, endT, rowsOf, callP, thinL, unfr, unfr.unfrL, PV.noMem, PV.noMem.noMemL, optI, mapO, norm, trimT, trimB, forget, hasN, blksLt, List.set, eN]
  generalize hE : evLoop _ _ _ _ _ = E
  rcases H _ _ hE (by simp [evCode, evOps, evOne, evOp, evPur, evEff, evPur.chunks, fillP, AOp.isEff, AO.ev, putP, PV.cells, PV.leaf, getB, getM, mapE, keyC, mapRows, mfind, eq1, eqL, scal, binP, unP, minP, maxP, foldP, PV.lt, PV.lt.ltL, endP, expoAll, expo, expo.expoL, frIds, frIds.frIdsL, nodupN, kill, cls, clsFuel, resO, RV.get, loadP, evC_p, evC_s, endS, endT, rowsOf, callP, thinL, unfr, unfr.unfrL, PV.noMem, PV.noMem.noMemL, optI, mapO, norm, trimT, trimB, forget, hasN, blksLt, List.set, S28, eN]) with ⟨g1, g2⟩ | ⟨g1, t, g2, g3⟩
  · rw [g2]
    unfold c28b0
    simp [evCode, evOps, evOne, evOp, evPur, evEff, evPur.chunks, fillP, AOp.isEff, AO.ev, putP, PV.cells, PV.leaf, getB, getM, mapE, keyC, mapRows, mfind, eq1, eqL, scal, binP, unP, minP, maxP, foldP, PV.lt, PV.lt.ltL, endP, expoAll, expo, expo.expoL, frIds, frIds.frIdsL, nodupN, kill, cls, clsFuel, resO, RV.get, loadP, evC_p, evC_s, endS, endT, rowsOf, callP, thinL, unfr, unfr.unfrL, PV.noMem, PV.noMem.noMemL, optI, mapO, norm, trimT, trimB, forget, hasN, blksLt, List.set, S28, eN, chkN, g1]
  · rw [g2]
    simp [evCode, evOps, evOne, evOp, evPur, evEff, evPur.chunks, fillP, AOp.isEff, AO.ev, putP, PV.cells, PV.leaf, getB, getM, mapE, keyC, mapRows, mfind, eq1, eqL, scal, binP, unP, minP, maxP, foldP, PV.lt, PV.lt.ltL, endP, expoAll, expo, expo.expoL, frIds, frIds.frIdsL, nodupN, kill, cls, clsFuel, resO, RV.get, loadP, evC_p, evC_s, endS, endT, rowsOf, callP, thinL, unfr, unfr.unfrL, PV.noMem, PV.noMem.noMemL, optI, mapO, norm, trimT, trimB, forget, hasN, blksLt, List.set, g3, chkN]

/-- depths -/
def dp (T : List (Int × Int)) : Nat → Nat → Int
  | 0, _ => 0
  | f + 1, i => match T[i]? with
    | none => 0
    | some p => if p.1 < 0 then 1 else 1 + dp T f p.1.toNat
def dpt (T : List (Int × Int)) (i : Nat) : Int := dp T (i + 1) i
def Down (T : List (Int × Int)) (k : Nat) : Prop := ∀ j q, j < k → T[j]? = some q → q.1 < j

theorem dp_fuel {T : List (Int × Int)} : ∀ (i : Nat), Down T (i + 1) → ∀ f g, i < f → i < g → dp T f i = dp T g i := by
  intro i
  induction i using Nat.strongRecOn with
  | _ i ih =>
    intro hd f g hf hg
    obtain ⟨f, rfl⟩ : ∃ f', f = f' + 1 := ⟨f - 1, by omega⟩
    obtain ⟨g, rfl⟩ : ∃ g', g = g' + 1 := ⟨g - 1, by omega⟩
    simp only [dp]
    cases hp : T[i]? with
    | none => rfl
    | some p =>
      simp only
      split
      · rfl
      · have := hd i p (by omega) hp
        rw [ih p.1.toNat (by omega) (fun j q hj hq => hd j q (by omega) hq) f g (by omega) (by omega)]
theorem dpt_step {T : List (Int × Int)} {i : Nat} {p : Int × Int} (hp : T[i]? = some p) (hd : Down T (i + 1)) : dpt T i = if p.1 < 0 then 1 else 1 + dpt T p.1.toNat := by
  have h1 := hd i p (by omega) hp
  unfold dpt
  simp only [dp, hp]
  split
  · rfl
  · rw [dp_fuel p.1.toNat (fun j q hj hq => hd j q (by omega) hq) i (p.1.toNat + 1) (by omega) (by omega)]
    simp only [dp]
theorem dp_le {T : List (Int × Int)} : ∀ (f i : Nat), 0 ≤ dp T f i ∧ dp T f i ≤ f
  | 0, i => by simp [dp]
  | f + 1, i => by
    simp only [dp]
    split
    · simp; omega
    · rename_i p hp
      have := dp_le (T := T) f p.1.toNat
      split <;> omega
theorem dpt_le (T : List (Int × Int)) (i : Nat) : 0 ≤ dpt T i ∧ dpt T i ≤ i + 1 := by
  have := dp_le (T := T) (i + 1) i
  unfold dpt; omega

def S32 (ex : Bool) (T : List (Int × Int)) (x : Int × Int) : St := ⟨[eSt ex T, .int .i64 x.1, .top, .top, .top, .int .i64 x.2] ++ List.replicate 10 .top, []⟩
theorem f32 (ex : Bool) (T : List (Int × Int)) (i : Nat) (hi : i < T.length) (hl : T.length ≤ 1000000) (hd : Down T (i + 1)) : evE Dg 32 [eSt ex T, .int .i64 i] = some (.int .i64 (dpt T i)) := by
  refine evE_intro (T.length + 2) D32 rfl ?_
  have H := loop_stop (body := evCode (evC Dg) (T.length + 2) c32b0) (keep := [0, 1, 5]) (n0 := 0) (fuel := T.length + 2) (S32 ex T) (fun x => (x.1 + 1).toNat)
    (fun x => x.1 ≤ i ∧ 0 ≤ x.2 ∧ x.2 + (if x.1 < 0 then 0 else dpt T x.1.toNat) = dpt T i) (fun x => x.1 < 0)
    (by
      rintro ⟨a, n⟩ ⟨h1, h2, h3⟩ hst
      simp only at h1 h2 h3 hst
      obtain ⟨k, rfl⟩ : ∃ k : Nat, a = k := ⟨a.toNat, by omega⟩
      obtain ⟨p, hp⟩ : ∃ p, T[k]? = some p := ⟨_, List.getElem?_eq_getElem (by omega)⟩
      have hlt := hd k p (by omega) hp
      have hdk := dpt_step hp (fun j q hj hq => hd j q (by omega) hq)
      have hle := dpt_le T i
      simp at h3
      have hn := dpt_le T k
      have w := wrap_i64 (n + 1) (by omega) (by omega)
      refine ⟨(p.1, n + 1), ?_⟩
      have hI : p.1 ≤ (i : Int) ∧ 0 ≤ n + 1 ∧ n + 1 + (if p.1 < 0 then 0 else dpt T p.1.toNat) = dpt T i := by
        refine ⟨by omega, by omega, ?_⟩
        rw [hdk] at h3
        split <;> rename_i hc <;> simp only [hc, if_true, if_false] at h3 <;> omega
      have hμ : (p.1 + 1).toNat < k + 1 := by omega
      unfold c32b0
      simp [evCode, evOps, evOne, evOp, evPur, evEff, evPur.chunks, fillP, AOp.isEff, AO.ev, putP, PV.cells, PV.leaf, getB, getM, mapE, keyC, mapRows, mfind, eq1, eqL, scal, binP, unP, minP, maxP, foldP, PV.lt, PV.lt.ltL, endP, expoAll, expo, expo.expoL, frIds, frIds.frIdsL, nodupN, kill, cls, clsFuel, resO, RV.get, loadP, evC_p, evC_s, endS, endT, rowsOf, callP, thinL, unfr, unfr.unfrL, PV.noMem, PV.noMem.noMemL, optI, mapO, norm, trimT, trimB, forget, hasN, blksLt, List.set, S32, eSt, eP, hp, w, hI, hμ])
    (by
      rintro ⟨a, n⟩ _ hst s
      have hst' : ¬ (0 ≤ a) := by simpa using hst
      unfold c32b0
      simp [evCode, evOps, evOne, evOp, evPur, evEff, evPur.chunks, fillP, AOp.isEff, AO.ev, putP, PV.cells, PV.leaf, getB, getM, mapE, keyC, mapRows, mfind, eq1, eqL, scal, binP, unP, minP, maxP, foldP, PV.lt, PV.lt.ltL, endP, expoAll, expo, expo.expoL, frIds, frIds.frIdsL, nodupN, kill, cls, clsFuel, resO, RV.get, loadP, evC_p, evC_s, endS, endT, rowsOf, callP, thinL, unfr, unfr.unfrL, PV.noMem, PV.noMem.noMemL, optI, mapO, norm, trimT, trimB, forget, hasN, blksLt, List.set, S32, eSt, hst']) ((i : Int), 0) ⟨Int.le_refl _, Int.le_refl _, by have h : ¬ ((i : Int) < 0) := by { omega }; simp [h]⟩ (by simp; omega)
  unfold c32
  simp [evCode, evOps, evOne, evOp, evPur, evEff, evPur.chunks, fillP, AOp.isEff, AO.ev, putP, PV.cells, PV.leaf, getB, getM, mapE, keyC, mapRows, mfind, eq1, eqL, scal, binP, unP, minP, maxP, foldP, PV.lt, PV.lt.ltL, endP, expoAll, expo, expo.expoL, frIds, frIds.frIdsL, nodupN, kill, cls, clsFuel, resO, RV.get, loadP, evC_p, evC_s, endS, endT, rowsOf, callP, thinL, unfr, unfr.unfrL, PV.noMem, PV.noMem.noMemL, optI, mapO, norm, trimT, trimB, forget, hasN, blksLt, List.set, eSt]
  generalize hE : evLoop _ _ _ _ _ = E
  obtain ⟨⟨a, n⟩, ⟨h1, h2, h3⟩, hst, g⟩ := H _ _ hE (by simp [evCode, evOps, evOne, evOp, evPur, evEff, evPur.chunks, fillP, AOp.isEff, AO.ev, putP, PV.cells, PV.leaf, getB, getM, mapE, keyC, mapRows, mfind, eq1, eqL, scal, binP, unP, minP, maxP, foldP, PV.lt, PV.lt.ltL, endP, expoAll, expo, expo.expoL, frIds, frIds.frIdsL, nodupN, kill, cls, clsFuel, resO, RV.get, loadP, evC_p, evC_s, endS, endT, rowsOf, callP, thinL, unfr, unfr.unfrL, PV.noMem, PV.noMem.noMemL, optI, mapO, norm, trimT, trimB, forget, hasN, blksLt, List.set, S32, eSt])
  simp only at h3 hst
  rw [if_pos hst] at h3
  have hst' : ¬ (0 ≤ a) := by omega
  rw [g]
  unfold c32b0
  simp [evCode, evOps, evOne, evOp, evPur, evEff, evPur.chunks, fillP, AOp.isEff, AO.ev, putP, PV.cells, PV.leaf, getB, getM, mapE, keyC, mapRows, mfind, eq1, eqL, scal, binP, unP, minP, maxP, foldP, PV.lt, PV.lt.ltL, endP, expoAll, expo, expo.expoL, frIds, frIds.frIdsL, nodupN, kill, cls, clsFuel, resO, RV.get, loadP, evC_p, evC_s, endS, endT, rowsOf, callP, thinL, unfr, unfr.unfrL, PV.noMem, PV.noMem.noMemL, optI, mapO, norm, trimT, trimB, forget, hasN, blksLt, List.set, S32, eSt, hst']
  omega

def prow (p : Int × Int) : List PV := [.agg (eP p), .bool true]
theorem pfind_no {l : List (Int × Int)} {s : Int × Int} (h : ¬ s ∈ l) : ∀ i, mfind [.i, .i] true (eP s) (l.map prow) i = some none := by
  induction l with
  | nil => intro i; rfl
  | cons a l ih =>
    intro i
    simp at h
    have := pair_ne h.1
    simp [prow, eP, mfind, keyC, eqL, eq1, this]
    exact ih h.2 (i + 1)
theorem pfind_yes {l : List (Int × Int)} {s : Int × Int} (h : s ∈ l) : ∀ i, ∃ j, mfind [.i, .i] true (eP s) (l.map prow) i = some (some (j, .bool true)) := by
  induction l with
  | nil => simp at h
  | cons a l ih =>
    intro i
    by_cases e : s = a
    · subst e
      exact ⟨i, by simp [prow, eP, mfind, keyC, eqL, eq1]⟩
    · have := pair_ne e
      simp [e] at h
      obtain ⟨j, hj⟩ := ih h (i + 1)
      exact ⟨j, by simp [prow, eP, mfind, keyC, eqL, eq1, this]; exact hj⟩

def badR (names : Int) (k : Nat) (p : Int × Int) : Bool := decide (p.1 < -1) || decide ((k : Int) ≤ p.1) || decide (p.2 < 0) || decide (names ≤ p.2)
def errS (names : Int) (T : List (Int × Int)) (k : Nat) (p : Int × Int) : Int := if badR names k p then 2 else if p ∈ T.take k then 4 else if 32 < dpt T k then 7 else 0
def chkS (names : Int) (T : List (Int × Int)) : Int := firstF (errS names T) T 0

def fr (T : List (Int × Int)) (k : Nat) : List (List PV) := (List.range T.length).map fun j => [.int .i64 (if j < k then dpt T j else 0)]
theorem fr_len (T : List (Int × Int)) (k : Nat) : (fr T k).length = T.length := by simp [fr]
theorem fr_get {T : List (Int × Int)} {k j : Nat} (h : j < T.length) : (fr T k)[j]? = some [.int .i64 (if j < k then dpt T j else 0)] := by simp [fr, h]
theorem fr_set {T : List (Int × Int)} {k : Nat} (h : k < T.length) : (fr T k).set k [.int .i64 (dpt T k)] = fr T (k + 1) := by
  apply List.ext_getElem?
  intro j
  by_cases hj : j < T.length
  · by_cases e : k = j
    · subst e
      rw [List.getElem?_set_self (by rw [fr_len]; exact h), fr_get h, if_pos (by omega)]
    · rw [List.getElem?_set_ne e, fr_get hj, fr_get hj]
      congr 3
      by_cases c : j < k
      · rw [if_pos c, if_pos (by omega)]
      · rw [if_neg c, if_neg (by omega)]
  · rw [List.getElem?_eq_none (by simp [fr_len]; omega), List.getElem?_eq_none (by rw [fr_len]; omega)]

def S29 (ex : Bool) (names : Int) (T : List (Int × Int)) (k : Nat) : St := ⟨[.int .i64 names, .top, .top, .top, .top, .mp 0 0, .own 1 T.length 0 T.length, .top, .top, .top, .top, .top, .top, .top, .top, .top, .top, eSt ex T, .int .i64 T.length, .int .i64 k] ++ List.replicate 50 .top,
  [some ⟨0, mapE, true, (T.map prow).take k⟩, some ⟨T.length, 1, true, fr T k⟩]⟩

theorem badR_spec {names : Int} {k : Nat} {p : Int × Int} : (badR names k p = true ↔ (p.1 < -1 ∨ (k : Int) ≤ p.1 ∨ p.2 < 0 ∨ names ≤ p.2)) := by
  simp [badR, or_assoc]

theorem f29 (ex : Bool) (names : Int) (T : List (Int × Int)) (hl : T.length ≤ 1000000) : evE Dg 29 [.int .i64 names, eSt ex T] = some (.int .i64 (chkS names T)) := by
  refine evE_intro (T.length + 1) D29 rfl ?_
  have H := loop_firstI (body := evCode (evC Dg) (T.length + 1) c29b0) (keep := [0, 5, 6, 17, 18, 19]) (n0 := 2) (fuel := T.length + 1) T (S29 ex names T) (errS names T) (Down T) (fun e t => t.sl[4]?.getD .top = .int .i64 e)
    (by
      intro k a ha hk hI hq
      have hk' : (k : Int) < T.length := by omega
      have h1 := wrap_i64 ((k : Int) + 1) (by omega) (by omega)
      unfold errS at hq
      by_cases c1 : badR names k a = true
      · simp [c1] at hq
      · have c1' : ¬ (a.1 < -1 ∨ (k : Int) ≤ a.1 ∨ a.2 < 0 ∨ names ≤ a.2) := fun h => c1 (badR_spec.2 h)
        have b1 : ¬ a.1 < -1 := by omega
        have b2 : ¬ (k : Int) ≤ a.1 := by omega
        have b3 : ¬ a.2 < 0 := by omega
        have b4 : ¬ names ≤ a.2 := by omega
        by_cases c2 : a ∈ T.take k
        · simp [c1, c2] at hq
        · by_cases c3 : 32 < dpt T k
          · simp [c1, c2, c3] at hq
          · have hm := pfind_no c2 0
            rw [List.map_take] at hm
            have ht := take_map (f := prow) ha
            have hD : Down T (k + 1) := fun j q hj hq' => by
              by_cases e : j = k
              · subst e; rw [ha] at hq'; cases hq'; omega
              · exact hI j q (by omega) hq'
            have hstep := dpt_step ha hD
            have hle := dpt_le T k
            have fl := fr_len T k
            have fl1 := fr_len T (k + 1)
            have F1 := fr_get (T := T) (k := k) hk
            rw [if_neg (by omega)] at F1
            have F4 := fr_set (T := T) hk
            have F5 := fr_get (T := T) (k := k + 1) hk
            rw [if_pos (by omega)] at F5
            have G1 : ∀ h, (fr T k)[k]'h = [.int .i64 0] := fun h => (List.getElem?_eq_some_iff.1 F1).2
            have G5 : ∀ h, (fr T (k + 1))[k]'h = [.int .i64 (dpt T k)] := fun h => (List.getElem?_eq_some_iff.1 F5).2
            refine ⟨hD, ?_⟩
            unfold c29b0
            obtain ⟨a1, a2⟩ := a
            by_cases c4 : 0 ≤ a1
            · obtain ⟨m, hm2⟩ : ∃ m : Nat, a1 = m := ⟨a1.toNat, by omega⟩
              subst hm2
              simp only at b1 b2 b3 b4
              have hmk : m < k := by omega
              have hmk2 : ¬ (k = m) := by omega
              have F3 := fr_get (T := T) (k := k) (j := m) (by omega)
              rw [if_pos hmk] at F3
              rw [if_neg (by simp)] at hstep
              simp only [Int.toNat_natCast] at hstep
              have w' : IntKind.i64.wrap (1 + dpt T m) = dpt T k := by rw [← hstep]; exact wrap_i64 _ (by omega) (by omega)
              simp only [eP] at hm
              have hkm : (m : Int) < k := by omega
              have hga : T[k] = ((m : Int), a2) := (List.getElem?_eq_some_iff.1 ha).2
              have hmT : m < T.length := by omega
              have G3 : ∀ h, (fr T k)[m]'h = [.int .i64 (dpt T m)] := fun h => (List.getElem?_eq_some_iff.1 F3).2
              simp [evCode, evOps, evOne, evOp, evPur, evEff, evPur.chunks, fillP, AOp.isEff, AO.ev, putP, PV.cells, PV.leaf, getB, getM, mapE, keyC, mapRows, mfind, eq1, eqL, scal, binP, unP, minP, maxP, foldP, PV.lt, PV.lt.ltL, endP, expoAll, expo, expo.expoL, frIds, frIds.frIdsL, nodupN, kill, cls, clsFuel, resO, RV.get, loadP, evC_p, evC_s, endS, endT, rowsOf, callP, thinL, unfr, unfr.unfrL, PV.noMem, PV.noMem.noMemL, optI, mapO, norm, trimT, trimB, forget, hasN, blksLt, List.set, S29, eSt, eP, ha, hk', hk, h1, hm, ht, b1, b2, b3, b4, F1, F3, F4, fl, hmk, hmk2, w', c3, hkm, hga, hmT, G1, G3, fl1, G5, prow]
            · simp only at b1 b2 b3 b4
              have hm1 : a1 = -1 := by omega
              subst hm1
              rw [if_pos (by simp)] at hstep
              rw [hstep] at F4
              have hga : T[k] = (-1, a2) := (List.getElem?_eq_some_iff.1 ha).2
              simp only [eP] at hm
              have G5' : ∀ h, (fr T (k + 1))[k]'h = [.int .i64 1] := fun h => by rw [G5 h, hstep]
              have hk2 : ¬ (k : Int) ≤ -1 := by omega
              simp [evCode, evOps, evOne, evOp, evPur, evEff, evPur.chunks, fillP, AOp.isEff, AO.ev, putP, PV.cells, PV.leaf, getB, getM, mapE, keyC, mapRows, mfind, eq1, eqL, scal, binP, unP, minP, maxP, foldP, PV.lt, PV.lt.ltL, endP, expoAll, expo, expo.expoL, frIds, frIds.frIdsL, nodupN, kill, cls, clsFuel, resO, RV.get, loadP, evC_p, evC_s, endS, endT, rowsOf, callP, thinL, unfr, unfr.unfrL, PV.noMem, PV.noMem.noMemL, optI, mapO, norm, trimT, trimB, forget, hasN, blksLt, List.set, S29, eSt, eP, ha, hk', hk, h1, hm, ht, b3, b4, F1, F4, fl, hga, G1, fl1, G5', prow, hk2])
    (by
      intro k a ha hk hI hq
      have hk' : (k : Int) < T.length := by omega
      have hga : T[k] = a := (List.getElem?_eq_some_iff.1 ha).2
      unfold errS at hq ⊢
      by_cases c1 : badR names k a = true
      · have c1' := badR_spec.1 c1
        rw [if_pos c1]
        unfold c29b0
        by_cases b1 : a.1 < -1
        · simp [evCode, evOps, evOne, evOp, evPur, evEff, evPur.chunks, fillP, AOp.isEff, AO.ev, putP, PV.cells, PV.leaf, getB, getM, mapE, keyC, mapRows, mfind, eq1, eqL, scal, binP, unP, minP, maxP, foldP, PV.lt, PV.lt.ltL, endP, expoAll, expo, expo.expoL, frIds, frIds.frIdsL, nodupN, kill, cls, clsFuel, resO, RV.get, loadP, evC_p, evC_s, endS, endT, rowsOf, callP, thinL, unfr, unfr.unfrL, PV.noMem, PV.noMem.noMemL, optI, mapO, norm, trimT, trimB, forget, hasN, blksLt, List.set, S29, eSt, eP, ha, hk', b1]
        · by_cases b2 : (k : Int) ≤ a.1
          · simp [evCode, evOps, evOne, evOp, evPur, evEff, evPur.chunks, fillP, AOp.isEff, AO.ev, putP, PV.cells, PV.leaf, getB, getM, mapE, keyC, mapRows, mfind, eq1, eqL, scal, binP, unP, minP, maxP, foldP, PV.lt, PV.lt.ltL, endP, expoAll, expo, expo.expoL, frIds, frIds.frIdsL, nodupN, kill, cls, clsFuel, resO, RV.get, loadP, evC_p, evC_s, endS, endT, rowsOf, callP, thinL, unfr, unfr.unfrL, PV.noMem, PV.noMem.noMemL, optI, mapO, norm, trimT, trimB, forget, hasN, blksLt, List.set, S29, eSt, eP, ha, hk', b1, b2]
          · by_cases b3 : a.2 < 0
            · simp [evCode, evOps, evOne, evOp, evPur, evEff, evPur.chunks, fillP, AOp.isEff, AO.ev, putP, PV.cells, PV.leaf, getB, getM, mapE, keyC, mapRows, mfind, eq1, eqL, scal, binP, unP, minP, maxP, foldP, PV.lt, PV.lt.ltL, endP, expoAll, expo, expo.expoL, frIds, frIds.frIdsL, nodupN, kill, cls, clsFuel, resO, RV.get, loadP, evC_p, evC_s, endS, endT, rowsOf, callP, thinL, unfr, unfr.unfrL, PV.noMem, PV.noMem.noMemL, optI, mapO, norm, trimT, trimB, forget, hasN, blksLt, List.set, S29, eSt, eP, ha, hk', b1, b2, b3]
            · have b4 : names ≤ a.2 := by omega
              simp [evCode, evOps, evOne, evOp, evPur, evEff, evPur.chunks, fillP, AOp.isEff, AO.ev, putP, PV.cells, PV.leaf, getB, getM, mapE, keyC, mapRows, mfind, eq1, eqL, scal, binP, unP, minP, maxP, foldP, PV.lt, PV.lt.ltL, endP, expoAll, expo, expo.expoL, frIds, frIds.frIdsL, nodupN, kill, cls, clsFuel, resO, RV.get, loadP, evC_p, evC_s, endS, endT, rowsOf, callP, thinL, unfr, unfr.unfrL, PV.noMem, PV.noMem.noMemL, optI, mapO, norm, trimT, trimB, forget, hasN, blksLt, List.set, S29, eSt, eP, ha, hk', b1, b2, b3, b4]
      · have c1' : ¬ (a.1 < -1 ∨ (k : Int) ≤ a.1 ∨ a.2 < 0 ∨ names ≤ a.2) := fun h => c1 (badR_spec.2 h)
        have b1 : ¬ a.1 < -1 := by omega
        have b2 : ¬ (k : Int) ≤ a.1 := by omega
        have b3 : ¬ a.2 < 0 := by omega
        have b4 : ¬ names ≤ a.2 := by omega
        rw [if_neg c1] at hq ⊢
        by_cases c2 : a ∈ T.take k
        · obtain ⟨j, hm⟩ := pfind_yes c2 0
          rw [List.map_take] at hm
          simp only [eP] at hm
          rw [if_pos c2]
          unfold c29b0
          simp [evCode, evOps, evOne, evOp, evPur, evEff, evPur.chunks, fillP, AOp.isEff, AO.ev, putP, PV.cells, PV.leaf, getB, getM, mapE, keyC, mapRows, mfind, eq1, eqL, scal, binP, unP, minP, maxP, foldP, PV.lt, PV.lt.ltL, endP, expoAll, expo, expo.expoL, frIds, frIds.frIdsL, nodupN, kill, cls, clsFuel, resO, RV.get, loadP, evC_p, evC_s, endS, endT, rowsOf, callP, thinL, unfr, unfr.unfrL, PV.noMem, PV.noMem.noMemL, optI, mapO, norm, trimT, trimB, forget, hasN, blksLt, List.set, S29, eSt, eP, ha, hk', b1, b2, b3, b4, hm]
        · rw [if_neg c2] at hq ⊢
          by_cases c3 : 32 < dpt T k
          · rw [if_pos c3]
            have hm := pfind_no c2 0
            rw [List.map_take] at hm
            have ht := take_map (f := prow) ha
            have hD : Down T (k + 1) := fun j q hj hq' => by
              by_cases e : j = k
              · subst e; rw [ha] at hq'; cases hq'; omega
              · exact hI j q (by omega) hq'
            have hstep := dpt_step ha hD
            have hle := dpt_le T k
            have fl := fr_len T k
            have fl1 := fr_len T (k + 1)
            have F1 := fr_get (T := T) (k := k) hk
            rw [if_neg (by omega)] at F1
            have F4 := fr_set (T := T) hk
            have F5 := fr_get (T := T) (k := k + 1) hk
            rw [if_pos (by omega)] at F5
            have G1 : ∀ h, (fr T k)[k]'h = [.int .i64 0] := fun h => (List.getElem?_eq_some_iff.1 F1).2
            have G5 : ∀ h, (fr T (k + 1))[k]'h = [.int .i64 (dpt T k)] := fun h => (List.getElem?_eq_some_iff.1 F5).2
            unfold c29b0
            obtain ⟨a1, a2⟩ := a
            by_cases c4 : 0 ≤ a1
            · obtain ⟨m, hm2⟩ : ∃ m : Nat, a1 = m := ⟨a1.toNat, by omega⟩
              subst hm2
              simp only at b1 b2 b3 b4
              have hmk : m < k := by omega
              have hmk2 : ¬ (k = m) := by omega
              have F3 := fr_get (T := T) (k := k) (j := m) (by omega)
              rw [if_pos hmk] at F3
              rw [if_neg (by simp)] at hstep
              simp only [Int.toNat_natCast] at hstep
              have w' : IntKind.i64.wrap (1 + dpt T m) = dpt T k := by rw [← hstep]; exact wrap_i64 _ (by omega) (by omega)
              simp only [eP] at hm
              have hkm : (m : Int) < k := by omega
              have hmT : m < T.length := by omega
              have G3 : ∀ h, (fr T k)[m]'h = [.int .i64 (dpt T m)] := fun h => (List.getElem?_eq_some_iff.1 F3).2
              simp [evCode, evOps, evOne, evOp, evPur, evEff, evPur.chunks, fillP, AOp.isEff, AO.ev, putP, PV.cells, PV.leaf, getB, getM, mapE, keyC, mapRows, mfind, eq1, eqL, scal, binP, unP, minP, maxP, foldP, PV.lt, PV.lt.ltL, endP, expoAll, expo, expo.expoL, frIds, frIds.frIdsL, nodupN, kill, cls, clsFuel, resO, RV.get, loadP, evC_p, evC_s, endS, endT, rowsOf, callP, thinL, unfr, unfr.unfrL, PV.noMem, PV.noMem.noMemL, optI, mapO, norm, trimT, trimB, forget, hasN, blksLt, List.set, S29, eSt, eP, ha, hk', hk, hm, ht, b1, b2, b3, b4, F1, F3, F4, fl, hmk, hmk2, w', c3, hkm, hga, hmT, G1, G3, fl1, G5, prow]
            · exfalso
              rw [if_pos (by simp; omega)] at hstep
              omega
          · simp [c3] at hq)
    (by
      intro t
      unfold c29b0
      simp [evCode, evOps, evOne, evOp, evPur, evEff, evPur.chunks, fillP, AOp.isEff, AO.ev, putP, PV.cells, PV.leaf, getB, getM, mapE, keyC, mapRows, mfind, eq1, eqL, scal, binP, unP, minP, maxP, foldP, PV.lt, PV.lt.ltL, endP, expoAll, expo, expo.expoL, frIds, frIds.frIdsL, nodupN, kill, cls, clsFuel, resO, RV.get, loadP, evC_p, evC_s, endS, endT, rowsOf, callP, thinL, unfr, unfr.unfrL, PV.noMem, PV.noMem.noMemL, optI, mapO, norm, trimT, trimB, forget, hasN, blksLt, List.set, S29, eSt, eP]) (fun j q hj => by omega) (by omega)
  have fl0 : fr T 0 = List.replicate T.length [.int .i64 0] := by
    apply List.ext_getElem?
    intro j
    by_cases hj : j < T.length
    · rw [fr_get hj, if_neg (by omega)]; simp [hj]
    · rw [List.getElem?_eq_none (by rw [fr_len]; omega), List.getElem?_eq_none (by simp; omega)]
  have c8 : (T.length : Int) ≤ 140737488355328 := by omega
  have c9 : (T.length : Int) * 8 ≤ 140737488355328 := by omega
  unfold c29
  simp [evCode, evOps, evOne, evOp, evPur, evEff, evPur.chunks, fillP, AOp.isEff, AO.ev, putP, PV.cells, PV.leaf, getB, getM, mapE, keyC, mapRows, mfind, eq1, eqL, scal, binP, unP, minP, maxP, foldP, PV.lt, PV.lt.ltL, endP, expoAll, expo, expo.expoL, frIds, frIds.frIdsL, nodupN, kill, cls, clsFuel, resO, RV.get, loadP, evC_p, evC_s, endS, endT, rowsOf, callP, thinL, unfr, unfr.unfrL, PV.noMem, PV.noMem.noMemL, optI, mapO, norm, trimT, trimB, forget, hasN, blksLt, List.set, eSt, c8, c9]
  generalize hE : evLoop _ _ _ _ _ = E
  rcases H _ _ hE (by simp [evCode, evOps, evOne, evOp, evPur, evEff, evPur.chunks, fillP, AOp.isEff, AO.ev, putP, PV.cells, PV.leaf, getB, getM, mapE, keyC, mapRows, mfind, eq1, eqL, scal, binP, unP, minP, maxP, foldP, PV.lt, PV.lt.ltL, endP, expoAll, expo, expo.expoL, frIds, frIds.frIdsL, nodupN, kill, cls, clsFuel, resO, RV.get, loadP, evC_p, evC_s, endS, endT, rowsOf, callP, thinL, unfr, unfr.unfrL, PV.noMem, PV.noMem.noMemL, optI, mapO, norm, trimT, trimB, forget, hasN, blksLt, List.set, S29, eSt, fl0]) with ⟨g1, gI, g2⟩ | ⟨g1, t, g2, g3⟩
  · rw [g2]
    unfold c29b0
    simp [evCode, evOps, evOne, evOp, evPur, evEff, evPur.chunks, fillP, AOp.isEff, AO.ev, putP, PV.cells, PV.leaf, getB, getM, mapE, keyC, mapRows, mfind, eq1, eqL, scal, binP, unP, minP, maxP, foldP, PV.lt, PV.lt.ltL, endP, expoAll, expo, expo.expoL, frIds, frIds.frIdsL, nodupN, kill, cls, clsFuel, resO, RV.get, loadP, evC_p, evC_s, endS, endT, rowsOf, callP, thinL, unfr, unfr.unfrL, PV.noMem, PV.noMem.noMemL, optI, mapO, norm, trimT, trimB, forget, hasN, blksLt, List.set, S29, eSt, chkS, g1]
  · rw [g2]
    simp [evCode, evOps, evOne, evOp, evPur, evEff, evPur.chunks, fillP, AOp.isEff, AO.ev, putP, PV.cells, PV.leaf, getB, getM, mapE, keyC, mapRows, mfind, eq1, eqL, scal, binP, unP, minP, maxP, foldP, PV.lt, PV.lt.ltL, endP, expoAll, expo, expo.expoL, frIds, frIds.frIdsL, nodupN, kill, cls, clsFuel, resO, RV.get, loadP, evC_p, evC_s, endS, endT, rowsOf, callP, thinL, unfr, unfr.unfrL, PV.noMem, PV.noMem.noMemL, optI, mapO, norm, trimT, trimB, forget, hasN, blksLt, List.set, g3, chkS]
end Go.Proofs.Ytddlicbogbmpbaa
