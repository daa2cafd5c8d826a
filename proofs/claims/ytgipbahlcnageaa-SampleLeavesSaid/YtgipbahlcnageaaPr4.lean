/- Samples: Few, awake, SampleDivides. -/
import Derived.Test.YtgipbahlcnageaaPr3
namespace Go.Proofs.Ytgipbahlcnageaa
open Go Go.RowKit
set_option linter.unusedVariables false
set_option linter.unusedSimpArgs false

def few (l : List Smp) : Bool := decide (l.length ≤ 40) && l.all fun s => smT s.st
def S14 (l : List Smp) (k : Nat) : St := ⟨[eSmps l, .top, .top, .int .i64 k] ++ List.replicate 17 .top, []⟩

theorem f14 (l : List Smp) : evE Dg 14 [eSmps l] = some (.bool (few l)) := by
  refine evE_intro (l.length + 1) D14 rfl ?_
  by_cases hl : l.length ≤ 40
  · have hl' : ¬ ((40 : Int) < l.length) := by omega
    have H := loop_all (body := evCode (evE Dg) (l.length + 1) c14b0) (keep := [0, 3]) (n0 := 0) (fuel := l.length + 1) l (S14 l) (fun s => smT s.st) (fun s => s.sl[2]?.getD .top = .bool false)
      (by
        intro k a ha hk hq
        have hk' : (k : Int) < l.length := by omega
        have h1 := wrap_i64 ((k : Int) + 1) (by omega) (by omega)
        have h9 := f9 ⟨0, 0, [], 0, 0, a.st⟩
        simp only [small, hq, eEvt, eTx] at h9
        simp at h9
        unfold c14b0
        simp [evCode, evOps, evOne, evOp, evPur, evEff, evPur.chunks, fillP, AOp.isEff, AO.ev, putP, PV.cells, PV.leaf, getB, scal, binP, unP, minP, maxP, foldP, PV.lt, PV.lt.ltL, endP, expoAll, expo, expo.expoL, frIds, frIds.frIdsL, nodupN, kill, cls, clsFuel, resP, rowsOf, callP, unfr, unfr.unfrL, PV.noMem, PV.noMem.noMemL, optI, mapO, norm, forget, hasN, blksLt, List.set, S14, eSmps, eSmp, eTx, ha, hk', h1, h9])
      (by
        intro k a ha hk hq
        have hk' : (k : Int) < l.length := by omega
        have h9 := f9 ⟨0, 0, [], 0, 0, a.st⟩
        simp only [small, hq, eEvt, eTx] at h9
        simp at h9
        unfold c14b0
        simp [evCode, evOps, evOne, evOp, evPur, evEff, evPur.chunks, fillP, AOp.isEff, AO.ev, putP, PV.cells, PV.leaf, getB, scal, binP, unP, minP, maxP, foldP, PV.lt, PV.lt.ltL, endP, expoAll, expo, expo.expoL, frIds, frIds.frIdsL, nodupN, kill, cls, clsFuel, resP, rowsOf, callP, unfr, unfr.unfrL, PV.noMem, PV.noMem.noMemL, optI, mapO, norm, forget, hasN, blksLt, List.set, S14, eSmps, eSmp, eTx, ha, hk', h9])
      (by
        intro s
        unfold c14b0
        simp [evCode, evOps, evOne, evOp, evPur, evEff, evPur.chunks, fillP, AOp.isEff, AO.ev, putP, PV.cells, PV.leaf, getB, scal, binP, unP, minP, maxP, foldP, PV.lt, PV.lt.ltL, endP, expoAll, expo, expo.expoL, frIds, frIds.frIdsL, nodupN, kill, cls, clsFuel, resP, rowsOf, callP, unfr, unfr.unfrL, PV.noMem, PV.noMem.noMemL, optI, mapO, norm, forget, hasN, blksLt, List.set, S14, eSmps]) (by omega)
    unfold c14
    simp [evCode, evOps, evOne, evOp, evPur, evEff, evPur.chunks, fillP, AOp.isEff, AO.ev, putP, PV.cells, PV.leaf, getB, scal, binP, unP, minP, maxP, foldP, PV.lt, PV.lt.ltL, endP, expoAll, expo, expo.expoL, frIds, frIds.frIdsL, nodupN, kill, cls, clsFuel, resP, rowsOf, callP, unfr, unfr.unfrL, PV.noMem, PV.noMem.noMemL, optI, mapO, norm, forget, hasN, blksLt, List.set, eSmps, hl', few, hl]
    generalize hE : evLoop _ _ _ _ _ = E
    rcases H _ _ hE (by simp [evCode, evOps, evOne, evOp, evPur, evEff, evPur.chunks, fillP, AOp.isEff, AO.ev, putP, PV.cells, PV.leaf, getB, scal, binP, unP, minP, maxP, foldP, PV.lt, PV.lt.ltL, endP, expoAll, expo, expo.expoL, frIds, frIds.frIdsL, nodupN, kill, cls, clsFuel, resP, rowsOf, callP, unfr, unfr.unfrL, PV.noMem, PV.noMem.noMemL, optI, mapO, norm, forget, hasN, blksLt, List.set, S14, eSmps]) with ⟨h1, h2⟩ | ⟨h1, s, h2, h3⟩
    · rw [h2]
      unfold c14b0
      simp [evCode, evOps, evOne, evOp, evPur, evEff, evPur.chunks, fillP, AOp.isEff, AO.ev, putP, PV.cells, PV.leaf, getB, scal, binP, unP, minP, maxP, foldP, PV.lt, PV.lt.ltL, endP, expoAll, expo, expo.expoL, frIds, frIds.frIdsL, nodupN, kill, cls, clsFuel, resP, rowsOf, callP, unfr, unfr.unfrL, PV.noMem, PV.noMem.noMemL, optI, mapO, norm, forget, hasN, blksLt, List.set, S14, eSmps]
      simpa using h1
    · rw [h2]
      simp [evCode, evOps, evOne, evOp, evPur, evEff, evPur.chunks, fillP, AOp.isEff, AO.ev, putP, PV.cells, PV.leaf, getB, scal, binP, unP, minP, maxP, foldP, PV.lt, PV.lt.ltL, endP, expoAll, expo, expo.expoL, frIds, frIds.frIdsL, nodupN, kill, cls, clsFuel, resP, rowsOf, callP, unfr, unfr.unfrL, PV.noMem, PV.noMem.noMemL, optI, mapO, norm, forget, hasN, blksLt, List.set, h3]
      simpa using h1
  · have hl' : ((40 : Int) < l.length) := by omega
    unfold c14
    simp [evCode, evOps, evOne, evOp, evPur, evEff, evPur.chunks, fillP, AOp.isEff, AO.ev, putP, PV.cells, PV.leaf, getB, scal, binP, unP, minP, maxP, foldP, PV.lt, PV.lt.ltL, endP, expoAll, expo, expo.expoL, frIds, frIds.frIdsL, nodupN, kill, cls, clsFuel, resP, rowsOf, callP, unfr, unfr.unfrL, PV.noMem, PV.noMem.noMemL, optI, mapO, norm, forget, hasN, blksLt, List.set, eSmps, hl', few, hl]

theorem f8 : evE Dg 8 [] = some (.bool true) := evE_of (n := 200) (by kernel_rfl)

theorem f16 (u v : Int) (l : List Smp) (hl : l.length ≤ 1000) : evE Dg 16 [eSmps l, .agg [.int .i64 u, .int .i64 v]] = some (.fr 4 ((l.filter (inW u v)).map eSmp)) := by
  rw [f16' u v l hl]
  have : ∀ (l x : List Smp), l.foldl (addS u v) x = x ++ l.filter (inW u v) := by
    intro l
    induction l with
    | nil => simp
    | cons s l ih =>
      intro x
      simp only [List.foldl, ih, addS, List.filter]
      split <;> simp [*]
  rw [this]; rfl

def rawW (W : Smp → Bool) : List Smp → Int
  | [] => 0
  | s :: l => (if inR s && W s then s.wt else 0) + rawW W l
theorem rawW_pos (W : Smp → Bool) : ∀ l, 0 ≤ rawW W l
  | [] => by simp [rawW]
  | s :: l => by
    have := rawW_pos W l
    simp only [rawW]
    split
    · rename_i h
      have := inR_wt (s := s) (by revert h; cases inR s <;> simp)
      omega
    · omega
theorem sumW_raw (W : Smp → Bool) (l : List Smp) : sumW W l = if 1000000000000000 < rawW W l then 1000000000000000 else rawW W l := by
  have key : ∀ (l : List Smp) (x : Int), 0 ≤ x → x ≤ 1000000000000000 → l.foldl (addW W) x = if 1000000000000000 < x + rawW W l then 1000000000000000 else x + rawW W l := by
    intro l
    induction l with
    | nil => intro x h1 h2; simp [List.foldl, rawW]; omega
    | cons s l ih =>
      intro x h1 h2
      have hp := rawW_pos W l
      simp only [List.foldl, rawW, addW]
      by_cases h : (inR s && W s) = true
      · have := inR_wt (s := s) (by revert h; cases inR s <;> simp)
        simp only [h, if_true]
        rw [ih _ (by split <;> omega) (by split <;> omega)]
        split <;> split <;> split <;> omega
      · simp only [h, Bool.false_eq_true, if_false]
        rw [ih x h1 h2]
        simp
  have := key l 0 (by omega) (by omega)
  simpa [sumW] using this

theorem div_len (l : List Smp) (a b c : Int) (h1 : a ≤ b) (h2 : b ≤ c) : (l.filter (inW a b)).length + (l.filter (inW b c)).length = (l.filter (inW a c)).length := by
  induction l with
  | nil => rfl
  | cons s l ih =>
    by_cases g1 : a ≤ s.at_ <;> by_cases g2 : s.at_ < b <;> by_cases g4 : b ≤ s.at_ <;> by_cases g3 : s.at_ < c <;> first | (exfalso; omega) | (simp [List.filter, inW, g1, g2, g3, g4]; (try simp [inW] at ih); omega)
theorem div_sum (W : Smp → Bool) (l : List Smp) (a b c : Int) (h1 : a ≤ b) (h2 : b ≤ c) : rawW W (l.filter (inW a b)) + rawW W (l.filter (inW b c)) = rawW W (l.filter (inW a c)) := by
  induction l with
  | nil => rfl
  | cons s l ih =>
    by_cases g1 : a ≤ s.at_ <;> by_cases g2 : s.at_ < b <;> by_cases g4 : b ≤ s.at_ <;> by_cases g3 : s.at_ < c <;> first | (exfalso; omega) | (simp [List.filter, inW, rawW, g1, g2, g3, g4]; (try simp [inW] at ih); omega)

/-- SampleDivides -/
theorem f6 (l : List Smp) (a b c : Int) : evE Dg 6 [eSmps l, .agg [.int .i64 a, .int .i64 b, .int .i64 c]] = some (.bool true) := by
  refine evE_intro 1 D6 rfl ?_
  have h8 := f8
  have h14 := f14 l
  unfold c6
  simp only [eSmps] at h14
  by_cases hf : few l = true
  · rw [hf] at h14
    by_cases h1 : a ≤ b
    · have h1' : ¬ (b < a) := by omega
      by_cases h2 : b ≤ c
      · have h2' : ¬ (c < b) := by omega
        have hl : l.length ≤ 40 := by
          simp [few] at hf; exact hf.1
        have w1 := f16 a b l (by omega)
        have w2 := f16 b c l (by omega)
        have w3 := f16 a c l (by omega)
        have n1 : (l.filter (inW a b)).length ≤ l.length := List.length_filter_le _ _
        have n2 : (l.filter (inW b c)).length ≤ l.length := List.length_filter_le _ _
        have n3 : (l.filter (inW a c)).length ≤ l.length := List.length_filter_le _ _
        have t1 := f20 (l.filter (inW a b)) (by omega)
        have t2 := f20 (l.filter (inW b c)) (by omega)
        have t3 := f20 (l.filter (inW a c)) (by omega)
        have d1 := div_len l a b c h1 h2
        have d2 := div_sum (fun _ => true) l a b c h1 h2
        rw [sumW_raw] at t1 t2 t3
        have p1 := rawW_pos (fun _ => true) (l.filter (inW a b))
        have p2 := rawW_pos (fun _ => true) (l.filter (inW b c))
        have p3 := rawW_pos (fun _ => true) (l.filter (inW a c))
        rw [← d2] at t3
        have d1' : ((l.filter (inW a b)).length : Int) + ((l.filter (inW b c)).length : Int) = ((l.filter (inW a c)).length : Int) := by omega
        have hw := wrap_i64 ((l.filter (inW a c)).length : Int) (by omega) (by omega)
        clear h14
        have h14 := f14 l
        rw [hf] at h14
        generalize l.filter (inW a b) = la at *
        generalize l.filter (inW b c) = lb at *
        generalize l.filter (inW a c) = lc at *
        generalize rawW (fun _ => true) la = x at *
        generalize rawW (fun _ => true) lb = y at *
        have hw2 := wrap_i64 ((if 1000000000000000 < x then 1000000000000000 else x) + (if 1000000000000000 < y then 1000000000000000 else y)) (by split <;> split <;> omega) (by split <;> split <;> omega)
        simp only [eSmps] at h14 w1 w2 w3 t1 t2 t3
        simp [evCode, evOps, evOne, evOp, evPur, evEff, evPur.chunks, fillP, AOp.isEff, AO.ev, putP, PV.cells, PV.leaf, getB, scal, binP, unP, minP, maxP, foldP, PV.lt, PV.lt.ltL, endP, expoAll, expo, expo.expoL, frIds, frIds.frIdsL, nodupN, kill, cls, clsFuel, resP, rowsOf, callP, unfr, unfr.unfrL, PV.noMem, PV.noMem.noMemL, optI, mapO, norm, forget, hasN, blksLt, List.set, eSmps, h8, h14, h1', h2', w1, w2, w3, t1, t2, t3, hw, hw2, d1']
        split <;> split <;> split <;> omega
      · have h2' : c < b := by omega
        simp [evCode, evOps, evOne, evOp, evPur, evEff, evPur.chunks, fillP, AOp.isEff, AO.ev, putP, PV.cells, PV.leaf, getB, scal, binP, unP, minP, maxP, foldP, PV.lt, PV.lt.ltL, endP, expoAll, expo, expo.expoL, frIds, frIds.frIdsL, nodupN, kill, cls, clsFuel, resP, rowsOf, callP, unfr, unfr.unfrL, PV.noMem, PV.noMem.noMemL, optI, mapO, norm, forget, hasN, blksLt, List.set, eSmps, h8, h14, h1', h2']
    · have h1' : b < a := by omega
      simp [evCode, evOps, evOne, evOp, evPur, evEff, evPur.chunks, fillP, AOp.isEff, AO.ev, putP, PV.cells, PV.leaf, getB, scal, binP, unP, minP, maxP, foldP, PV.lt, PV.lt.ltL, endP, expoAll, expo, expo.expoL, frIds, frIds.frIdsL, nodupN, kill, cls, clsFuel, resP, rowsOf, callP, unfr, unfr.unfrL, PV.noMem, PV.noMem.noMemL, optI, mapO, norm, forget, hasN, blksLt, List.set, eSmps, h8, h14, h1']
  · have hf : few l = false := by simpa using hf
    rw [hf] at h14
    simp [evCode, evOps, evOne, evOp, evPur, evEff, evPur.chunks, fillP, AOp.isEff, AO.ev, putP, PV.cells, PV.leaf, getB, scal, binP, unP, minP, maxP, foldP, PV.lt, PV.lt.ltL, endP, expoAll, expo, expo.expoL, frIds, frIds.frIdsL, nodupN, kill, cls, clsFuel, resP, rowsOf, callP, unfr, unfr.unfrL, PV.noMem, PV.noMem.noMemL, optI, mapO, norm, forget, hasN, blksLt, List.set, eSmps, h8, h14]
end Go.Proofs.Ytgipbahlcnageaa
