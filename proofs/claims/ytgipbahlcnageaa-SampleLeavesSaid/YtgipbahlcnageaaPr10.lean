/- Samples: SampleOrdered, SampleLeaves. -/
import Derived.Test.YtgipbahlcnageaaPr9
namespace Go.Proofs.Ytgipbahlcnageaa
open Go Go.RowKit
set_option linter.unusedVariables false
set_option linter.unusedSimpArgs false
set_option maxHeartbeats 2000000

def S13x (ex : Bool) (l : List Smp) (k : Nat) : St := ⟨[(PV.sl ex 4 (l.map eSmp)), .top, .top, .top, .top, .top, (PV.sl ex 4 (l.map eSmp)), .int .i64 l.length, .int .i64 k] ++ List.replicate 27 .top, []⟩
theorem f13x (ex : Bool) (l : List Smp) (hl : l.length ≤ 140737488355328) : evE Dg 13 [.sl ex 4 (l.map eSmp)] = some (.int .i64 (chk l)) := by
  refine evE_intro (l.length + 1) D13 rfl ?_
  have H := loop_first (body := evCode (evE Dg) (l.length + 1) c13b0) (keep := [0, 6, 7, 8]) (n0 := 0) (fuel := l.length + 1) l (S13x ex l) (errAt l) (fun e t => t.sl[2]?.getD .top = .int .i64 e)
    (by
      intro k a ha hk hq
      have hk' : (k : Int) < l.length := by omega
      have h1 := wrap_i64 ((k : Int) + 1) (by omega) (by omega)
      have h25 := f25 a
      have h26 := f26 a.st
      unfold errAt at hq
      by_cases c1 : inR a = true
      · by_cases c2 : framesE a.st = 0
        · rw [c1] at h25
          rw [c2] at h26
          simp only [eSmp, eTx] at h25 h26
          simp only [c1, c2, if_true] at hq
          unfold c13b0
          by_cases k0 : k = 0
          · have k1 : ¬ (0 < k) := by omega
            simp [evCode, evOps, evOne, evOp, evPur, evEff, evPur.chunks, fillP, AOp.isEff, AO.ev, putP, PV.cells, PV.leaf, getB, scal, binP, unP, minP, maxP, foldP, PV.lt, PV.lt.ltL, endP, expoAll, expo, expo.expoL, frIds, frIds.frIdsL, nodupN, kill, cls, clsFuel, resP, rowsOf, callP, unfr, unfr.unfrL, PV.noMem, PV.noMem.noMemL, optI, mapO, norm, forget, hasN, blksLt, List.set, S13x, eSmps, eSmp, eTx, ha, hk', h1, h25, h26, k1]
          · obtain ⟨j, hj⟩ : ∃ j, k = j + 1 := ⟨k - 1, by omega⟩
            obtain ⟨b, hb⟩ : ∃ b, l[j]? = some b := ⟨_, List.getElem?_eq_getElem (by omega)⟩
            have c3 : ¬ (a.at_ < b.at_) := by
              intro h
              simp [hj, early, hb, h] at hq
            have w : IntKind.i64.wrap ((k : Int) - 1) = (j : Int) := by rw [hj, wrap_i64 _ (by omega) (by omega)]; omega
            have k1 : 0 < k := by omega
            simp [evCode, evOps, evOne, evOp, evPur, evEff, evPur.chunks, fillP, AOp.isEff, AO.ev, putP, PV.cells, PV.leaf, getB, scal, binP, unP, minP, maxP, foldP, PV.lt, PV.lt.ltL, endP, expoAll, expo, expo.expoL, frIds, frIds.frIdsL, nodupN, kill, cls, clsFuel, resP, rowsOf, callP, unfr, unfr.unfrL, PV.noMem, PV.noMem.noMemL, optI, mapO, norm, forget, hasN, blksLt, List.set, S13x, eSmps, eSmp, eTx, ha, hb, hk', h1, h25, h26, w, k1, c3]
        · simp [c1, c2] at hq
      · simp [c1] at hq)
    (by
      intro k a ha hk hq
      have hk' : (k : Int) < l.length := by omega
      have h25 := f25 a
      have h26 := f26 a.st
      unfold errAt at hq ⊢
      by_cases c1 : inR a = true
      · rw [c1] at h25
        by_cases c2 : framesE a.st = 0
        · rw [c2] at h26
          simp only [eSmp, eTx] at h25 h26
          simp only [c1, c2, if_true] at hq ⊢
          unfold c13b0
          by_cases k0 : k = 0
          · simp [k0, early] at hq
          · obtain ⟨j, hj⟩ : ∃ j, k = j + 1 := ⟨k - 1, by omega⟩
            obtain ⟨b, hb⟩ : ∃ b, l[j]? = some b := ⟨_, List.getElem?_eq_getElem (by omega)⟩
            have c3 : a.at_ < b.at_ := by
              apply Decidable.byContradiction
              intro h
              simp [hj, early, hb, h] at hq
            have w : IntKind.i64.wrap ((k : Int) - 1) = (j : Int) := by rw [hj, wrap_i64 _ (by omega) (by omega)]; omega
            have k1 : 0 < k := by omega
            have he : early l k a = true := by rw [hj]; simp [early, hb, c3]
            simp [evCode, evOps, evOne, evOp, evPur, evEff, evPur.chunks, fillP, AOp.isEff, AO.ev, putP, PV.cells, PV.leaf, getB, scal, binP, unP, minP, maxP, foldP, PV.lt, PV.lt.ltL, endP, expoAll, expo, expo.expoL, frIds, frIds.frIdsL, nodupN, kill, cls, clsFuel, resP, rowsOf, callP, unfr, unfr.unfrL, PV.noMem, PV.noMem.noMemL, optI, mapO, norm, forget, hasN, blksLt, List.set, S13x, eSmps, eSmp, eTx, ha, hb, hk', h25, h26, w, k1, c3, he]
        · have c2' : (framesE a.st == 0) = false := by simpa using c2
          simp only [eSmp, eTx] at h25 h26
          unfold c13b0
          simp [evCode, evOps, evOne, evOp, evPur, evEff, evPur.chunks, fillP, AOp.isEff, AO.ev, putP, PV.cells, PV.leaf, getB, scal, binP, unP, minP, maxP, foldP, PV.lt, PV.lt.ltL, endP, expoAll, expo, expo.expoL, frIds, frIds.frIdsL, nodupN, kill, cls, clsFuel, resP, rowsOf, callP, unfr, unfr.unfrL, PV.noMem, PV.noMem.noMemL, optI, mapO, norm, forget, hasN, blksLt, List.set, S13x, eSmps, eSmp, eTx, ha, hk', h25, h26, c1, c2, c2']
      · have c1 : inR a = false := by simpa using c1
        rw [c1] at h25
        simp only [eSmp, eTx] at h25
        unfold c13b0
        simp [evCode, evOps, evOne, evOp, evPur, evEff, evPur.chunks, fillP, AOp.isEff, AO.ev, putP, PV.cells, PV.leaf, getB, scal, binP, unP, minP, maxP, foldP, PV.lt, PV.lt.ltL, endP, expoAll, expo, expo.expoL, frIds, frIds.frIdsL, nodupN, kill, cls, clsFuel, resP, rowsOf, callP, unfr, unfr.unfrL, PV.noMem, PV.noMem.noMemL, optI, mapO, norm, forget, hasN, blksLt, List.set, S13x, eSmps, eSmp, eTx, ha, hk', h25, c1])
    (by
      intro s
      unfold c13b0
      simp [evCode, evOps, evOne, evOp, evPur, evEff, evPur.chunks, fillP, AOp.isEff, AO.ev, putP, PV.cells, PV.leaf, getB, scal, binP, unP, minP, maxP, foldP, PV.lt, PV.lt.ltL, endP, expoAll, expo, expo.expoL, frIds, frIds.frIdsL, nodupN, kill, cls, clsFuel, resP, rowsOf, callP, unfr, unfr.unfrL, PV.noMem, PV.noMem.noMemL, optI, mapO, norm, forget, hasN, blksLt, List.set, S13x, eSmps]) (by omega)
  unfold c13
  simp [evCode, evOps, evOne, evOp, evPur, evEff, evPur.chunks, fillP, AOp.isEff, AO.ev, putP, PV.cells, PV.leaf, getB, scal, binP, unP, minP, maxP, foldP, PV.lt, PV.lt.ltL, endP, expoAll, expo, expo.expoL, frIds, frIds.frIdsL, nodupN, kill, cls, clsFuel, resP, rowsOf, callP, unfr, unfr.unfrL, PV.noMem, PV.noMem.noMemL, optI, mapO, norm, forget, hasN, blksLt, List.set]
  generalize hE : evLoop _ _ _ _ _ = E
  rcases H _ _ hE (by simp [evCode, evOps, evOne, evOp, evPur, evEff, evPur.chunks, fillP, AOp.isEff, AO.ev, putP, PV.cells, PV.leaf, getB, scal, binP, unP, minP, maxP, foldP, PV.lt, PV.lt.ltL, endP, expoAll, expo, expo.expoL, frIds, frIds.frIdsL, nodupN, kill, cls, clsFuel, resP, rowsOf, callP, unfr, unfr.unfrL, PV.noMem, PV.noMem.noMemL, optI, mapO, norm, forget, hasN, blksLt, List.set, S13x, eSmps]) with ⟨g1, g2⟩ | ⟨g1, t, g2, g3⟩
  · rw [g2]
    unfold c13b0
    simp [evCode, evOps, evOne, evOp, evPur, evEff, evPur.chunks, fillP, AOp.isEff, AO.ev, putP, PV.cells, PV.leaf, getB, scal, binP, unP, minP, maxP, foldP, PV.lt, PV.lt.ltL, endP, expoAll, expo, expo.expoL, frIds, frIds.frIdsL, nodupN, kill, cls, clsFuel, resP, rowsOf, callP, unfr, unfr.unfrL, PV.noMem, PV.noMem.noMemL, optI, mapO, norm, forget, hasN, blksLt, List.set, S13x, eSmps]
    exact g1.symm
  · rw [g2]
    simp [evCode, evOps, evOne, evOp, evPur, evEff, evPur.chunks, fillP, AOp.isEff, AO.ev, putP, PV.cells, PV.leaf, getB, scal, binP, unP, minP, maxP, foldP, PV.lt, PV.lt.ltL, endP, expoAll, expo, expo.expoL, frIds, frIds.frIdsL, nodupN, kill, cls, clsFuel, resP, rowsOf, callP, unfr, unfr.unfrL, PV.noMem, PV.noMem.noMemL, optI, mapO, norm, forget, hasN, blksLt, List.set, g3]
    rfl

/-- a loop over a list that goes on under an invariant, or returns -/
theorem loop_inv {α σ : Type} {body : St → Option Out} {keep : List Nat} {n0 : Nat} (L : List α) (S : Nat → σ → St) (I : Nat → σ → Prop) (R : St → Prop)
    (hnext : ∀ k a x, L[k]? = some a → k < L.length → I k x → (∃ x' s', body (S k x) = some (.normal s') ∧ norm keep n0 s' = S (k + 1) x' ∧ I (k + 1) x') ∨ ∃ s', body (S k x) = some (.ret s') ∧ R s')
    (hend : ∀ x, I L.length x → ∀ s, body (S L.length x) ≠ some (.normal s)) {fuel : Nat} (hf : L.length < fuel) (x0 : σ) (hI0 : I 0 x0) (s0 : St) (E : Option Out) (hE : evLoop body keep n0 fuel s0 = E) (h0 : norm keep n0 s0 = S 0 x0) :
    (∃ x, I L.length x ∧ E = body (S L.length x)) ∨ (∃ s, E = some (.ret s) ∧ R s) := by
  subst hE
  have key : ∀ (r : List α) (k fuel : Nat) (s : St) (x : σ), (∀ i, r[i]? = L[k + i]?) → k + r.length = L.length → r.length < fuel → norm keep n0 s = S k x → I k x →
      (∃ x, I L.length x ∧ evLoop body keep n0 fuel s = body (S L.length x)) ∨ (∃ o, evLoop body keep n0 fuel s = some (.ret o) ∧ R o) := by
    intro r
    induction r with
    | nil =>
      intro k fuel s x hr hl hfu hs hx
      obtain ⟨f', rfl⟩ : ∃ f', fuel = f' + 1 := ⟨fuel - 1, by simp at hfu; omega⟩
      have hk : k = L.length := by simpa using hl
      subst hk
      refine .inl ⟨x, hx, ?_⟩
      rw [evLoop, hs]
      cases hb : body (S L.length x) with
      | none => rfl
      | some o => cases o with
        | normal st => exact absurd hb (hend x hx st)
        | exit id st => rfl
        | ret st => rfl
    | cons a r ih =>
      intro k fuel s x hr hl hfu hs hx
      obtain ⟨f', rfl⟩ : ∃ f', fuel = f' + 1 := ⟨fuel - 1, by simp at hfu; omega⟩
      have hla : L[k]? = some a := by simpa using (hr 0).symm
      have hkl : k < L.length := (List.getElem?_eq_some_iff.1 hla).1
      rcases hnext k a x hla hkl hx with ⟨x', s', g2, g3, g4⟩ | ⟨s', g2, g3⟩
      · simp only [evLoop, hs]
        rw [g2]
        exact ih (k + 1) f' s' x' (fun i => by have := hr (i + 1); rw [show k + (i + 1) = k + 1 + i by omega] at this; simpa using this) (by simp at hl; omega) (by simp at hfu; omega) g3 g4
      · refine .inr ⟨s', ?_, g3⟩
        simp only [evLoop, hs]
        rw [g2]
  exact key L 0 fuel s0 x0 (fun i => by simp) (by simp) hf h0 hI0

def is5 (a : Tmd) : Bool := decide (a.ev.kind = 5)
theorem ofT_eq (l : List Tmd) : ofT l = (l.filter is5).map smpT := by
  have key : ∀ (l : List Tmd) (x : List Smp), l.foldl addT x = x ++ (l.filter is5).map smpT := by
    intro l
    induction l with
    | nil => simp
    | cons a l ih =>
      intro x
      simp only [List.foldl, ih, addT, List.filter, is5]
      by_cases h : a.ev.kind = 5 <;> simp [h]
  simpa [ofT] using key l []

def one (a : Tmd) : Smp := ⟨a.th, 0, a.ev.n, a.ev.st⟩
theorem chk_one (s : Smp) : chk [s] = if inR s then framesE s.st else 2 := by
  unfold chk
  simp only [firstF, errAt, early]
  repeat' split
  all_goals simp_all

def Ok4 (l : List Tmd) (k : Nat) : Prop := (∀ i j a b, i < j → j < k → l[i]? = some a → l[j]? = some b → a.lo ≤ b.lo) ∧ ∀ a ∈ l.take k, is5 a = true → inR (one a) = true ∧ framesE a.ev.st = 0

theorem Ok4.step {l : List Tmd} {k : Nat} {a : Tmd} (ha : l[k]? = some a) (h : Ok4 l k) (h1 : ∀ j b, k = j + 1 → l[j]? = some b → b.lo ≤ a.lo) (h2 : is5 a = true → inR (one a) = true ∧ framesE a.ev.st = 0) : Ok4 l (k + 1) := by
  refine ⟨fun i j x y hij hj hx hy => ?_, fun x hx => ?_⟩
  · by_cases hjk : j = k
    · subst hjk
      rw [ha] at hy; cases hy
      obtain ⟨m, rfl⟩ : ∃ m, j = m + 1 := ⟨j - 1, by omega⟩
      have hlt := (List.getElem?_eq_some_iff.1 ha).1
      have hm : l[m]? = some l[m] := List.getElem?_eq_getElem (by omega)
      have g := h1 m _ rfl hm
      by_cases him : i = m
      · subst him; rw [hm] at hx; cases hx; exact g
      · exact Int.le_trans (h.1 i m x _ (by omega) (by omega) hx hm) g
    · exact h.1 i j x y hij (by omega) hx hy
  · rw [List.take_add_one, ha] at hx
    rcases List.mem_append.1 hx with hx | hx
    · exact h.2 x hx
    · simp at hx; subst hx; exact h2

theorem timeT_le (a : Tmd) : 0 ≤ timeT a ∧ timeT a ≤ 1000000000000 := by
  unfold timeT
  repeat' split
  all_goals omega

theorem Ok4.chk {l : List Tmd} (h : Ok4 l l.length) : chk (ofT l) = 0 := by
  have hp : (ofT l).Pairwise (fun a b => a.at_ ≤ b.at_) := by
    rw [ofT_eq, List.pairwise_map]
    refine List.Pairwise.filter _ ?_
    rw [List.pairwise_iff_getElem]
    intro i j hi hj hij
    have := h.1 i j _ _ hij hj (List.getElem?_eq_getElem hi) (List.getElem?_eq_getElem hj)
    simp only [smpT, timeT]
    repeat' split
    all_goals omega
  unfold Go.Proofs.Ytgipbahlcnageaa.chk
  rw [firstF_zero]
  intro i s hs
  rw [Nat.zero_add]
  have hm := List.mem_of_getElem? hs
  rw [ofT_eq, List.mem_map] at hm
  obtain ⟨a, ha, rfl⟩ := hm
  rw [List.mem_filter] at ha
  obtain ⟨g1, g2⟩ := h.2 a (by simpa using ha.1) ha.2
  have h1 : inR (smpT a) = true := by
    have ht := timeT_le a
    have g1' : (decide (0 ≤ a.th) && decide (a.th ≤ 1000000000000000) && decide ((0 : Int) ≤ 0) && decide ((0 : Int) ≤ 1000000000000) && decide (1 ≤ a.ev.n) && decide (a.ev.n ≤ 1000000000000)) = true := g1
    show (decide (0 ≤ a.th) && decide (a.th ≤ 1000000000000000) && decide (0 ≤ timeT a) && decide (timeT a ≤ 1000000000000) && decide (1 ≤ a.ev.n) && decide (a.ev.n ≤ 1000000000000)) = true
    simp at g1' ⊢
    omega
  have h2 : framesE (smpT a).st = 0 := g2
  have h3 : early (ofT l) i (smpT a) = false := by
    cases i with
    | zero => rfl
    | succ j =>
      have hlt := (List.getElem?_eq_some_iff.1 hs).1
      have hj : (ofT l)[j]? = some (ofT l)[j] := List.getElem?_eq_getElem (by omega)
      simp only [early, hj]
      have := (List.pairwise_iff_getElem.1 hp) j (j + 1) (by omega) hlt (by omega)
      rw [List.getElem?_eq_getElem hlt] at hs
      rw [← Option.some.inj hs]
      simp at this ⊢; omega
  simp [errAt, h1, h2, h3]

def S4 (l : List Tmd) (k : Nat) (x : Nat) : St := ⟨[eTmds l, .top, .top, .int .i64 x, .int .i64 k] ++ List.replicate 74 .top, []⟩
def I4 (l : List Tmd) (k : Nat) (x : Nat) : Prop := x = ((l.take k).filter is5).length ∧ Ok4 l k

theorem f4 (l : List Tmd) : evE Dg 4 [eTmds l] = some (.bool true) := by
  refine evE_intro (l.length + 1) D4 rfl ?_
  have h8 := f8
  by_cases hl : l.length ≤ 60
  · have hl' : ¬ ((60 : Int) < l.length) := by omega
    have H := loop_inv (body := evCode (evE Dg) (l.length + 1) c4b0) (keep := [0, 3, 4]) (n0 := 0) (fuel := l.length + 1) l (S4 l) (I4 l) (fun s => s.sl[2]?.getD .top = .bool true)
      (by
        intro k a x ha hk hx
        have hk' : (k : Int) < l.length := by omega
        have h1 := wrap_i64 ((k : Int) + 1) (by omega) (by omega)
        have h9 := f9 a.ev
        by_cases hs : small a.ev = true
        · by_cases hlate : ∃ j b, k = j + 1 ∧ l[j]? = some b ∧ a.lo < b.lo
          · refine .inr ?_
            obtain ⟨j, b, hj, hb, hlt⟩ := hlate
            have w : IntKind.i64.wrap ((k : Int) - 1) = (j : Int) := by rw [hj, wrap_i64 _ (by omega) (by omega)]; omega
            have k1 : 0 < k := by omega
            simp only [hs, eEvt, eTx] at h9
            unfold c4b0
            simp [evCode, evOps, evOne, evOp, evPur, evEff, evPur.chunks, fillP, AOp.isEff, AO.ev, putP, PV.cells, PV.leaf, getB, scal, binP, unP, minP, maxP, foldP, PV.lt, PV.lt.ltL, endP, expoAll, expo, expo.expoL, frIds, frIds.frIdsL, nodupN, kill, cls, clsFuel, resP, rowsOf, callP, unfr, unfr.unfrL, PV.noMem, PV.noMem.noMemL, optI, mapO, norm, forget, hasN, blksLt, List.set, S4, eTmds, eTmd, eTx, ha, hb, hk', h9, w, k1, hlt]
          · have hle : ∀ j b, k = j + 1 → l[j]? = some b → b.lo ≤ a.lo := by
              intro j b hj hb
              apply Decidable.byContradiction
              intro hn
              exact hlate ⟨j, b, hj, hb, by omega⟩
            have hx1 : x < 9223372036854775807 := by
              have := List.length_filter_le is5 (l.take k)
              have h3 := List.length_take_le k l
              have := hx.1
              omega
            have hx2 := wrap_i64 ((x : Int) + 1) (by omega) (by omega)
            by_cases h5 : a.ev.kind = 5
            · have h13 := f13x true [one a] (by simp)
              have hst : a.ev.st.length ≤ 60 := small_st hs
              simp only [hs, eEvt, eTx, h5] at h9
              by_cases hc : chk [one a] = 0
              · refine .inl ⟨x + 1, ?_⟩
                have hq : inR (one a) = true ∧ framesE a.ev.st = 0 := by
                  rw [chk_one] at hc
                  split at hc
                  · rename_i hi; exact ⟨hi, hc⟩
                  · cases hc
                have hI : I4 l (k + 1) (x + 1) := ⟨by rw [List.take_add_one, ha]; simp [is5, h5, hx.1], hx.2.step ha hle (fun _ => hq)⟩
                rw [hc] at h13
                simp only [one, List.map, eSmp, eTx] at h13
                unfold c4b0
                by_cases k0 : k = 0
                · have k1 : ¬ (0 < k) := by omega
                  simp [evCode, evOps, evOne, evOp, evPur, evEff, evPur.chunks, fillP, AOp.isEff, AO.ev, putP, PV.cells, PV.leaf, getB, scal, binP, unP, minP, maxP, foldP, PV.lt, PV.lt.ltL, endP, expoAll, expo, expo.expoL, frIds, frIds.frIdsL, nodupN, kill, cls, clsFuel, resP, rowsOf, callP, unfr, unfr.unfrL, PV.noMem, PV.noMem.noMemL, optI, mapO, norm, forget, hasN, blksLt, List.set, S4, eTmds, eTmd, eTx, ha, hk', h9, k1, h5, h13, h1, hx2, hI]
                · obtain ⟨j, hj⟩ : ∃ j, k = j + 1 := ⟨k - 1, by omega⟩
                  obtain ⟨b, hb⟩ : ∃ b, l[j]? = some b := ⟨_, List.getElem?_eq_getElem (by omega)⟩
                  have w : IntKind.i64.wrap ((k : Int) - 1) = (j : Int) := by rw [hj, wrap_i64 _ (by omega) (by omega)]; omega
                  have k1 : 0 < k := by omega
                  have c3 : ¬ (a.lo < b.lo) := by have := hle j b hj hb; omega
                  simp [evCode, evOps, evOne, evOp, evPur, evEff, evPur.chunks, fillP, AOp.isEff, AO.ev, putP, PV.cells, PV.leaf, getB, scal, binP, unP, minP, maxP, foldP, PV.lt, PV.lt.ltL, endP, expoAll, expo, expo.expoL, frIds, frIds.frIdsL, nodupN, kill, cls, clsFuel, resP, rowsOf, callP, unfr, unfr.unfrL, PV.noMem, PV.noMem.noMemL, optI, mapO, norm, forget, hasN, blksLt, List.set, S4, eTmds, eTmd, eTx, ha, hb, hk', h9, k1, w, c3, h5, h13, h1, hx2, hI]
              · refine .inr ?_
                have hc' : (chk [one a] == 0) = false := by simpa using hc
                generalize chk [one a] = c at h13 hc hc'
                simp only [one, List.map, eSmp, eTx] at h13
                unfold c4b0
                by_cases k0 : k = 0
                · have k1 : ¬ (0 < k) := by omega
                  simp [evCode, evOps, evOne, evOp, evPur, evEff, evPur.chunks, fillP, AOp.isEff, AO.ev, putP, PV.cells, PV.leaf, getB, scal, binP, unP, minP, maxP, foldP, PV.lt, PV.lt.ltL, endP, expoAll, expo, expo.expoL, frIds, frIds.frIdsL, nodupN, kill, cls, clsFuel, resP, rowsOf, callP, unfr, unfr.unfrL, PV.noMem, PV.noMem.noMemL, optI, mapO, norm, forget, hasN, blksLt, List.set, S4, eTmds, eTmd, eTx, ha, hk', h9, k1, h5, h13, h1, hx2, hc, hc']
                · obtain ⟨j, hj⟩ : ∃ j, k = j + 1 := ⟨k - 1, by omega⟩
                  obtain ⟨b, hb⟩ : ∃ b, l[j]? = some b := ⟨_, List.getElem?_eq_getElem (by omega)⟩
                  have w : IntKind.i64.wrap ((k : Int) - 1) = (j : Int) := by rw [hj, wrap_i64 _ (by omega) (by omega)]; omega
                  have k1 : 0 < k := by omega
                  have c3 : ¬ (a.lo < b.lo) := by have := hle j b hj hb; omega
                  simp [evCode, evOps, evOne, evOp, evPur, evEff, evPur.chunks, fillP, AOp.isEff, AO.ev, putP, PV.cells, PV.leaf, getB, scal, binP, unP, minP, maxP, foldP, PV.lt, PV.lt.ltL, endP, expoAll, expo, expo.expoL, frIds, frIds.frIdsL, nodupN, kill, cls, clsFuel, resP, rowsOf, callP, unfr, unfr.unfrL, PV.noMem, PV.noMem.noMemL, optI, mapO, norm, forget, hasN, blksLt, List.set, S4, eTmds, eTmd, eTx, ha, hb, hk', h9, k1, w, c3, h5, h13, h1, hx2, hc, hc']
            · refine .inl ⟨x, ?_⟩
              have hI : I4 l (k + 1) x := ⟨by rw [List.take_add_one, ha]; simp [is5, h5, hx.1], hx.2.step ha hle (fun h => by simp [is5, h5] at h)⟩
              simp only [hs, eEvt, eTx] at h9
              unfold c4b0
              by_cases k0 : k = 0
              · have k1 : ¬ (0 < k) := by omega
                simp [evCode, evOps, evOne, evOp, evPur, evEff, evPur.chunks, fillP, AOp.isEff, AO.ev, putP, PV.cells, PV.leaf, getB, scal, binP, unP, minP, maxP, foldP, PV.lt, PV.lt.ltL, endP, expoAll, expo, expo.expoL, frIds, frIds.frIdsL, nodupN, kill, cls, clsFuel, resP, rowsOf, callP, unfr, unfr.unfrL, PV.noMem, PV.noMem.noMemL, optI, mapO, norm, forget, hasN, blksLt, List.set, S4, eTmds, eTmd, eTx, ha, hk', h9, k1, h5, h1, hI]
              · obtain ⟨j, hj⟩ : ∃ j, k = j + 1 := ⟨k - 1, by omega⟩
                obtain ⟨b, hb⟩ : ∃ b, l[j]? = some b := ⟨_, List.getElem?_eq_getElem (by omega)⟩
                have w : IntKind.i64.wrap ((k : Int) - 1) = (j : Int) := by rw [hj, wrap_i64 _ (by omega) (by omega)]; omega
                have k1 : 0 < k := by omega
                have c3 : ¬ (a.lo < b.lo) := by have := hle j b hj hb; omega
                simp [evCode, evOps, evOne, evOp, evPur, evEff, evPur.chunks, fillP, AOp.isEff, AO.ev, putP, PV.cells, PV.leaf, getB, scal, binP, unP, minP, maxP, foldP, PV.lt, PV.lt.ltL, endP, expoAll, expo, expo.expoL, frIds, frIds.frIdsL, nodupN, kill, cls, clsFuel, resP, rowsOf, callP, unfr, unfr.unfrL, PV.noMem, PV.noMem.noMemL, optI, mapO, norm, forget, hasN, blksLt, List.set, S4, eTmds, eTmd, eTx, ha, hb, hk', h9, k1, w, c3, h5, h1, hI]
        · have hs : small a.ev = false := by simpa using hs
          refine .inr ?_
          simp only [hs, eEvt, eTx] at h9
          unfold c4b0
          simp [evCode, evOps, evOne, evOp, evPur, evEff, evPur.chunks, fillP, AOp.isEff, AO.ev, putP, PV.cells, PV.leaf, getB, scal, binP, unP, minP, maxP, foldP, PV.lt, PV.lt.ltL, endP, expoAll, expo, expo.expoL, frIds, frIds.frIdsL, nodupN, kill, cls, clsFuel, resP, rowsOf, callP, unfr, unfr.unfrL, PV.noMem, PV.noMem.noMemL, optI, mapO, norm, forget, hasN, blksLt, List.set, S4, eTmds, eTmd, eTx, ha, hk', h9])
      (by
        intro x hx s
        unfold c4b0
        simp [evCode, evOps, evOne, evOp, evPur, evEff, evPur.chunks, fillP, AOp.isEff, AO.ev, putP, PV.cells, PV.leaf, getB, scal, binP, unP, minP, maxP, foldP, PV.lt, PV.lt.ltL, endP, expoAll, expo, expo.expoL, frIds, frIds.frIdsL, nodupN, kill, cls, clsFuel, resP, rowsOf, callP, unfr, unfr.unfrL, PV.noMem, PV.noMem.noMemL, optI, mapO, norm, forget, hasN, blksLt, List.set, S4, eTmds]) (by omega) 0 ⟨by simp, fun i j a b h1 h2 => by omega, fun a ha => by simp at ha⟩
    unfold c4
    simp [evCode, evOps, evOne, evOp, evPur, evEff, evPur.chunks, fillP, AOp.isEff, AO.ev, putP, PV.cells, PV.leaf, getB, scal, binP, unP, minP, maxP, foldP, PV.lt, PV.lt.ltL, endP, expoAll, expo, expo.expoL, frIds, frIds.frIdsL, nodupN, kill, cls, clsFuel, resP, rowsOf, callP, unfr, unfr.unfrL, PV.noMem, PV.noMem.noMemL, optI, mapO, norm, forget, hasN, blksLt, List.set, eTmds, h8, hl']
    generalize hE : evLoop _ _ _ _ _ = E
    rcases H _ _ hE (by simp [evCode, evOps, evOne, evOp, evPur, evEff, evPur.chunks, fillP, AOp.isEff, AO.ev, putP, PV.cells, PV.leaf, getB, scal, binP, unP, minP, maxP, foldP, PV.lt, PV.lt.ltL, endP, expoAll, expo, expo.expoL, frIds, frIds.frIdsL, nodupN, kill, cls, clsFuel, resP, rowsOf, callP, unfr, unfr.unfrL, PV.noMem, PV.noMem.noMemL, optI, mapO, norm, forget, hasN, blksLt, List.set, S4, eTmds]) with ⟨x, hx, g⟩ | ⟨s, g1, g2⟩
    · rw [g]
      have h11 := f11 l (by omega)
      have h13 := f13 (ofT l) (by have := ofT_len l; omega)
      have hlen : (ofT l).length = x := by
        rw [ofT_eq, hx.1]; simp
      rw [hx.2.chk] at h13
      unfold c4b0
      simp [evCode, evOps, evOne, evOp, evPur, evEff, evPur.chunks, fillP, AOp.isEff, AO.ev, putP, PV.cells, PV.leaf, getB, scal, binP, unP, minP, maxP, foldP, PV.lt, PV.lt.ltL, endP, expoAll, expo, expo.expoL, frIds, frIds.frIdsL, nodupN, kill, cls, clsFuel, resP, rowsOf, callP, unfr, unfr.unfrL, PV.noMem, PV.noMem.noMemL, optI, mapO, norm, forget, hasN, blksLt, List.set, S4, eTmds]
      unfold c4r0
      simp only [eTmds, eSmps] at h11 h13
      simp [evCode, evOps, evOne, evOp, evPur, evEff, evPur.chunks, fillP, AOp.isEff, AO.ev, putP, PV.cells, PV.leaf, getB, scal, binP, unP, minP, maxP, foldP, PV.lt, PV.lt.ltL, endP, expoAll, expo, expo.expoL, frIds, frIds.frIdsL, nodupN, kill, cls, clsFuel, resP, rowsOf, callP, unfr, unfr.unfrL, PV.noMem, PV.noMem.noMemL, optI, mapO, norm, forget, hasN, blksLt, List.set, h11, h13, hlen]
    · rw [g1]
      simp [evCode, evOps, evOne, evOp, evPur, evEff, evPur.chunks, fillP, AOp.isEff, AO.ev, putP, PV.cells, PV.leaf, getB, scal, binP, unP, minP, maxP, foldP, PV.lt, PV.lt.ltL, endP, expoAll, expo, expo.expoL, frIds, frIds.frIdsL, nodupN, kill, cls, clsFuel, resP, rowsOf, callP, unfr, unfr.unfrL, PV.noMem, PV.noMem.noMemL, optI, mapO, norm, forget, hasN, blksLt, List.set, g2]
  · have hl' : (60 : Int) < l.length := by omega
    unfold c4
    simp [evCode, evOps, evOne, evOp, evPur, evEff, evPur.chunks, fillP, AOp.isEff, AO.ev, putP, PV.cells, PV.leaf, getB, scal, binP, unP, minP, maxP, foldP, PV.lt, PV.lt.ltL, endP, expoAll, expo, expo.expoL, frIds, frIds.frIdsL, nodupN, kill, cls, clsFuel, resP, rowsOf, callP, unfr, unfr.unfrL, PV.noMem, PV.noMem.noMemL, optI, mapO, norm, forget, hasN, blksLt, List.set, eTmds, h8, hl']

theorem law4 (ps : List PV) (h : ArgL Try.prog 12 [22] ps) : evE Dg 4 ps = some (.bool true) := by
  obtain ⟨p, rfl, h1⟩ := argL1 h
  obtain ⟨l, rfl, _⟩ := in_tmds h1
  exact f4 l

end Go.Proofs.Ytgipbahlcnageaa
