/- Samples: SampleLeaves. -/
import Derived.Test.YtgipbahlcnageaaPr10
namespace Go.Proofs.Ytgipbahlcnageaa
open Go Go.RowKit
set_option linter.unusedVariables false
set_option linter.unusedSimpArgs false
set_option maxHeartbeats 2000000

structure L7 where
  seen : List (List UInt8)
  bare : List Smp
  sum : Int
def lastS (s : Smp) : List UInt8 := s.st.getLast?.getD []
def nx7 (l : List Smp) (x : L7) (s : Smp) : L7 := if s.st = [] then ⟨x.seen, x.bare ++ [s], x.sum⟩ else
  if x.seen.any (fun n => n == lastS s) then x else ⟨x.seen ++ [lastS s], x.bare, x.sum + sumW (isLeaf (lastS s)) l⟩

def S7 (l : List Smp) (k : Nat) (x : L7) : St := ⟨[eSmps l, .top, .top, .int .i64 x.sum, .own 0 x.seen.length 0 x.seen.length, .own 1 x.bare.length 0 x.bare.length, .int .i64 k] ++ List.replicate 76 .top,
  [some ⟨x.seen.length, 1, true, x.seen.map fun t => [.str t]⟩, some ⟨x.bare.length, 4, true, x.bare.map eSmp⟩]⟩
def T7 (l : List Smp) (k : Nat) (x : L7) (n : List UInt8) (j : Nat) (old : Bool) : St := ⟨[eSmps l, .top, .top, .int .i64 x.sum, .own 0 x.seen.length 0 x.seen.length, .own 1 x.bare.length 0 x.bare.length, .int .i64 k, .top, .str n, .bool old, .int .i64 j] ++ List.replicate 72 .top,
  [some ⟨x.seen.length, 1, true, x.seen.map fun t => [.str t]⟩, some ⟨x.bare.length, 4, true, x.bare.map eSmp⟩]⟩

theorem fold_any (n : List UInt8) (l : List (List UInt8)) (b : Bool) : l.foldl (fun o t => o || t == n) b = (b || l.any (fun t => t == n)) := by
  induction l generalizing b with
  | nil => simp
  | cons a l ih => simp only [List.foldl, ih, List.any_cons]; cases b <;> simp

theorem f7_inner (l : List Smp) (k : Nat) (x : L7) (n : List UInt8) (m : Nat) (hx : x.seen.length ≤ 40) (hm : 40 < m) (s0 : St) (E : Option Out) (hE : evLoop (evCode (evE Dg) m c7b0) [0, 3, 4, 5, 6, 8, 9, 10] 2 m s0 = E) (h0 : norm [0, 3, 4, 5, 6, 8, 9, 10] 2 s0 = T7 l k x n 0 false) :
    E = evCode (evE Dg) m c7b0 (T7 l k x n x.seen.length (x.seen.any (fun t => t == n))) := by
  have H := loop_foldE (body := evCode (evE Dg) m c7b0) (keep := [0, 3, 4, 5, 6, 8, 9, 10]) (n0 := 2) (fuel := m) x.seen (T7 l k x n) (fun o t => o || t == n) (fun _ _ => True)
    (by
      intro j a o ha hk _
      refine ⟨trivial, ?_⟩
      have h1 := wrap_i64 ((j : Int) + 1) (by omega) (by omega)
      have hk' : (j : Int) < x.seen.length := by omega
      have hj : x.seen[j] = a := (List.getElem?_eq_some_iff.1 ha).2
      unfold c7b0
      cases o
      · by_cases e : a = n
        · simp [evCode, evOps, evOne, evOp, evPur, evEff, evPur.chunks, fillP, AOp.isEff, AO.ev, putP, PV.cells, PV.leaf, getB, scal, binP, unP, minP, maxP, foldP, PV.lt, PV.lt.ltL, endP, expoAll, expo, expo.expoL, frIds, frIds.frIdsL, nodupN, kill, cls, clsFuel, resP, rowsOf, callP, unfr, unfr.unfrL, PV.noMem, PV.noMem.noMemL, optI, mapO, norm, forget, hasN, blksLt, List.set, T7, eSmps, ha, hj, hk', hk, h1, e]
        · simp [evCode, evOps, evOne, evOp, evPur, evEff, evPur.chunks, fillP, AOp.isEff, AO.ev, putP, PV.cells, PV.leaf, getB, scal, binP, unP, minP, maxP, foldP, PV.lt, PV.lt.ltL, endP, expoAll, expo, expo.expoL, frIds, frIds.frIdsL, nodupN, kill, cls, clsFuel, resP, rowsOf, callP, unfr, unfr.unfrL, PV.noMem, PV.noMem.noMemL, optI, mapO, norm, forget, hasN, blksLt, List.set, T7, eSmps, ha, hj, hk', hk, h1, e]
      · simp [evCode, evOps, evOne, evOp, evPur, evEff, evPur.chunks, fillP, AOp.isEff, AO.ev, putP, PV.cells, PV.leaf, getB, scal, binP, unP, minP, maxP, foldP, PV.lt, PV.lt.ltL, endP, expoAll, expo, expo.expoL, frIds, frIds.frIdsL, nodupN, kill, cls, clsFuel, resP, rowsOf, callP, unfr, unfr.unfrL, PV.noMem, PV.noMem.noMemL, optI, mapO, norm, forget, hasN, blksLt, List.set, T7, eSmps, ha, hj, hk', hk, h1])
    (by
      intro o _ s
      unfold c7b0
      simp [evCode, evOps, evOne, evOp, evPur, evEff, evPur.chunks, fillP, AOp.isEff, AO.ev, putP, PV.cells, PV.leaf, getB, scal, binP, unP, minP, maxP, foldP, PV.lt, PV.lt.ltL, endP, expoAll, expo, expo.expoL, frIds, frIds.frIdsL, nodupN, kill, cls, clsFuel, resP, rowsOf, callP, unfr, unfr.unfrL, PV.noMem, PV.noMem.noMemL, optI, mapO, norm, forget, hasN, blksLt, List.set, T7, eSmps]) (by omega) false trivial s0 E hE h0
  have h1 := H.1
  rw [fold_any] at h1
  simpa using h1


def leafSum (l : List Smp) (seen : List (List UInt8)) : Int := (seen.map fun n => sumW (isLeaf n) l).sum
def I7 (l : List Smp) (k : Nat) (x : L7) : Prop := x.seen.length ≤ k ∧ x.bare = (l.take k).filter (fun s => s.st.isEmpty) ∧ x.sum = leafSum l x.seen ∧ x.seen.Nodup ∧ ∀ s ∈ l.take k, s.st ≠ [] → lastS s ∈ x.seen

theorem sumW_le (W : Smp → Bool) (l : List Smp) : 0 ≤ sumW W l ∧ sumW W l ≤ 1000000000000000 := by
  have := rawW_pos W l
  rw [sumW_raw]
  split <;> omega
theorem leafSum_le (l : List Smp) : ∀ seen, 0 ≤ leafSum l seen ∧ leafSum l seen ≤ seen.length * 1000000000000000
  | [] => by simp [leafSum]
  | n :: r => by
    have h := sumW_le (isLeaf n) l
    have h2 := leafSum_le l r
    simp only [leafSum, List.map, List.sum_cons, List.length_cons] at h2 ⊢
    omega

theorem nx7_I {l : List Smp} {k : Nat} {a : Smp} {x : L7} (ha : l[k]? = some a) (h : I7 l k x) : I7 l (k + 1) (nx7 l x a) := by
  obtain ⟨h1, h2, h3, h4, h5⟩ := h
  have hk : l.take (k + 1) = l.take k ++ [a] := by rw [List.take_add_one, ha]; rfl
  unfold nx7
  split
  · rename_i e
    refine ⟨by simp; omega, by simp [hk, List.filter_append, h2, e], h3, h4, fun s hs hn => ?_⟩
    rw [hk] at hs
    rcases List.mem_append.1 hs with hs | hs
    · exact h5 s hs hn
    · simp at hs; subst hs; exact absurd e hn
  · rename_i e
    have e' : a.st.isEmpty = false := by cases h : a.st <;> simp_all
    have hb : x.bare = (l.take (k + 1)).filter (fun s => s.st.isEmpty) := by simp [hk, List.filter_append, h2, e']
    split
    · rename_i c
      refine ⟨by omega, hb, h3, h4, fun s hs hn => ?_⟩
      rw [hk] at hs
      rcases List.mem_append.1 hs with hs | hs
      · exact h5 s hs hn
      · simp at hs; subst hs
        simpa using c
    · rename_i c
      refine ⟨by simp; omega, hb, by simp [leafSum, h3], ?_, fun s hs hn => ?_⟩
      · rw [List.nodup_append]
        refine ⟨h4, by simp, ?_⟩
        intro b hb c' hc'
        simp at hc'
        subst hc'
        rintro rfl
        simp at c
        exact c hb
      · rw [hk] at hs
        rcases List.mem_append.1 hs with hs | hs
        · exact List.mem_append_left _ (h5 s hs hn)
        · simp at hs; subst hs; simp

theorem rawW_filter (l : List Smp) (p : Smp → Bool) : rawW (fun _ => true) (l.filter p) = rawW p l := by
  induction l with
  | nil => rfl
  | cons s l ih =>
    simp only [List.filter]
    cases h : p s <;> simp [rawW, ih, h]

def rawSum (l : List Smp) (seen : List (List UInt8)) : Int := (seen.map fun n => rawW (isLeaf n) l).sum
theorem rawSum_pos (l : List Smp) : ∀ seen, 0 ≤ rawSum l seen
  | [] => by simp [rawSum]
  | n :: r => by
    have h := rawW_pos (isLeaf n) l
    have h2 := rawSum_pos l r
    simp only [rawSum, List.map, List.sum_cons] at h2 ⊢
    omega
theorem leaf_cap (l : List Smp) : ∀ seen, (if (1000000000000000 : Int) < leafSum l seen then 1000000000000000 else leafSum l seen) = if 1000000000000000 < rawSum l seen then 1000000000000000 else rawSum l seen
  | [] => by simp [leafSum, rawSum]
  | n :: r => by
    have h0 := rawW_pos (isLeaf n) l
    have h1 := leafSum_le l r
    have h2 := rawSum_pos l r
    have h3 := leaf_cap l r
    have h4 : leafSum l (n :: r) = sumW (isLeaf n) l + leafSum l r := by simp [leafSum]
    have h5 : rawSum l (n :: r) = rawW (isLeaf n) l + rawSum l r := by simp [rawSum]
    rw [h4, h5, sumW_raw]
    generalize leafSum l r = A at *
    generalize rawSum l r = B at *
    generalize rawW (isLeaf n) l = C at *
    by_cases c1 : 1000000000000000 < A <;> by_cases c2 : 1000000000000000 < B <;> by_cases c3 : 1000000000000000 < C <;> simp only [c1, c2, c3, if_true, if_false] at h3 ⊢ <;> repeat' split
    all_goals omega

theorem isLeaf_last {s : Smp} (h : s.st ≠ []) (n : List UInt8) : isLeaf n s = (lastS s == n) := by
  rcases last_cases s with e | ⟨i, t, e⟩
  · exact absurd e h
  · simp [isLeaf, lastS, e]
theorem isLeaf_nil {s : Smp} (h : s.st = []) (n : List UInt8) : isLeaf n s = false := by simp [isLeaf, h]

/-- one sample's weight is counted once -/
theorem rawSum_cons (s : Smp) (l : List Smp) : ∀ seen : List (List UInt8), seen.Nodup → rawSum (s :: l) seen = (if inR s && (!s.st.isEmpty && seen.any (fun n => lastS s == n)) then s.wt else 0) + rawSum l seen
  | [], _ => by simp [rawSum]
  | n :: r, h => by
    have h4 : rawSum (s :: l) (n :: r) = rawW (isLeaf n) (s :: l) + rawSum (s :: l) r := by simp [rawSum]
    have h5 : rawSum l (n :: r) = rawW (isLeaf n) l + rawSum l r := by simp [rawSum]
    rw [List.nodup_cons] at h
    rw [h4, h5, rawSum_cons s l r h.2, rawW]
    by_cases e : s.st = []
    · simp [isLeaf_nil e, e]
    · have e' : s.st.isEmpty = false := by cases h : s.st <;> simp_all
      rw [isLeaf_last e]
      simp only [e', Bool.not_false, Bool.true_and, List.any_cons]
      by_cases c : lastS s = n
      · have hr : r.any (fun n => lastS s == n) = false := by
          rw [List.any_eq_false]
          intro m hm
          simp only [beq_iff_eq]
          rintro rfl
          exact h.1 (c ▸ hm)
        have c' : (lastS s == n) = true := by simp [c]
        rw [hr, c']
        cases inR s <;> simp <;> omega
      · have c' : (lastS s == n) = false := by simp [c]
        rw [c']
        simp; omega

theorem raw_parts (seen : List (List UInt8)) (hn : seen.Nodup) : ∀ l : List Smp, (∀ s ∈ l, s.st ≠ [] → lastS s ∈ seen) → rawW (fun _ => true) l = rawSum l seen + rawW (fun _ => true) (l.filter fun s => s.st.isEmpty)
  | [], _ => by
    have : ∀ seen, rawSum [] seen = 0 := by
      intro seen
      induction seen with
      | nil => simp [rawSum]
      | cons n r ih => simp [rawSum, rawW] at ih ⊢; exact ih
    simp [rawW, this]
  | s :: l, h => by
    have ih := raw_parts seen hn l (fun s hs => h s (by simp [hs]))
    rw [rawSum_cons s l seen hn]
    by_cases e : s.st = []
    · simp only [rawW, List.filter, e, List.isEmpty_nil, Bool.not_true, Bool.false_and, Bool.and_false, Bool.and_true]
      simp only [Bool.false_eq_true, if_false]
      omega
    · have e' : s.st.isEmpty = false := by cases h : s.st <;> simp_all
      have hm := h s (by simp) e
      have hany : seen.any (fun n => lastS s == n) = true := by
        rw [List.any_eq_true]
        exact ⟨_, hm, by simp⟩
      simp only [rawW, List.filter, e', hany, Bool.not_false, Bool.and_true]
      omega

theorem leaves_add (l : List Smp) (x : L7) (h : I7 l l.length x) : (if (1000000000000000 : Int) < x.sum + sumW (fun _ => true) x.bare then 1000000000000000 else x.sum + sumW (fun _ => true) x.bare) = sumW (fun _ => true) l := by
  obtain ⟨h1, h2, h3, h4, h5⟩ := h
  rw [List.take_length] at h2 h5
  have hp := raw_parts x.seen h4 l h5
  have hc := leaf_cap l x.seen
  have hL := leafSum_le l x.seen
  have hR := rawSum_pos l x.seen
  have hB := rawW_pos (fun _ => true) (l.filter fun s => s.st.isEmpty)
  rw [h3, h2, sumW_raw, sumW_raw, hp]
  generalize leafSum l x.seen = A at *
  generalize rawSum l x.seen = B at *
  generalize rawW (fun _ => true) (l.filter fun s => s.st.isEmpty) = C at *
  by_cases c1 : 1000000000000000 < A <;> by_cases c2 : 1000000000000000 < B <;> simp only [c1, c2, if_true, if_false] at hc <;> repeat' split
  all_goals omega

theorem f7 (l : List Smp) : evE Dg 7 [eSmps l] = some (.bool true) := by
  refine evE_intro 100 D7 rfl ?_
  have h8 := f8
  have h14 := f14 l
  by_cases hf : few l = true
  · obtain ⟨g1, g2⟩ := few_spec hf
    have H := loop_foldE (body := evCode (evE Dg) 100 c7b1) (keep := [0, 3, 4, 5, 6]) (n0 := 2) (fuel := 100) l (S7 l) (nx7 l) (I7 l)
      (by
        intro k a x ha hk hx
        refine ⟨nx7_I ha hx, ?_⟩
        have h1 := wrap_i64 ((k : Int) + 1) (by omega) (by omega)
        have hk' : (k : Int) < l.length := by omega
        have hb1 : x.bare.length ≤ 40 := by
          rw [hx.2.1]
          have := List.length_filter_le (fun s : Smp => s.st.isEmpty) (l.take k)
          have := List.length_take_le k l
          omega
        have hs1 := hx.1
        have hst := g2 a (List.mem_of_getElem? ha)
        unfold c7b1
        rcases last_cases a with h | ⟨i, t, h⟩
        · have m1 : ((x.bare.length : Nat) + 1) * 48 ≤ 140737488355328 := by omega
          have m2 : x.bare.length + 1 ≤ 140737488355328 := by omega
          simp [evCode, evOps, evOne, evOp, evPur, evEff, evPur.chunks, fillP, AOp.isEff, AO.ev, putP, PV.cells, PV.leaf, getB, scal, binP, unP, minP, maxP, foldP, PV.lt, PV.lt.ltL, endP, expoAll, expo, expo.expoL, frIds, frIds.frIdsL, nodupN, kill, cls, clsFuel, resP, rowsOf, callP, unfr, unfr.unfrL, PV.noMem, PV.noMem.noMemL, optI, mapO, norm, forget, hasN, blksLt, List.set, S7, eSmps, eSmp, eTx, ha, hk', h1, h, m1, m2, nx7]
        · have hl : i.length < 60 := by rw [h] at hst; simp at hst; omega
          have w3 := wrap_i64 (i.length : Int) (by omega) (by omega)
          have h2 : (List.map (fun t => [PV.str t]) i ++ [[PV.str t]])[i.length]? = some [PV.str t] := by simp
          have h3 : (0 : Int) < (i.length : Int) + 1 := by omega
          have h4 : (i.length : Int) + 1 - 1 = i.length := by omega
          have h5 : ¬ ((i.length : Int) + 1 = 0) := by omega
          have hL : lastS a = t := by simp [lastS, h]
          have h18 := f18 t l (by omega) (fun s hs => by have := g2 s hs; omega)
          have hS := leafSum_le l x.seen
          have hT := sumW_le (isLeaf t) l
          have hx3 := hx.2.2.1
          have hw := wrap_i64 (x.sum + sumW (isLeaf t) l) (by omega) (by omega)
          simp only [eSmps] at h18
          simp [evCode, evOps, evOne, evOp, evPur, evEff, evPur.chunks, fillP, AOp.isEff, AO.ev, putP, PV.cells, PV.leaf, getB, scal, binP, unP, minP, maxP, foldP, PV.lt, PV.lt.ltL, endP, expoAll, expo, expo.expoL, frIds, frIds.frIdsL, nodupN, kill, cls, clsFuel, resP, rowsOf, callP, unfr, unfr.unfrL, PV.noMem, PV.noMem.noMemL, optI, mapO, norm, forget, hasN, blksLt, List.set, S7, eSmps, eSmp, eTx, ha, hk', h1, h, w3, h2, h3, h4, h5]
          generalize hE : evLoop _ _ _ _ _ = E
          have he := f7_inner l k x t 100 (by omega) (by omega) _ E hE (by simp [evCode, evOps, evOne, evOp, evPur, evEff, evPur.chunks, fillP, AOp.isEff, AO.ev, putP, PV.cells, PV.leaf, getB, scal, binP, unP, minP, maxP, foldP, PV.lt, PV.lt.ltL, endP, expoAll, expo, expo.expoL, frIds, frIds.frIdsL, nodupN, kill, cls, clsFuel, resP, rowsOf, callP, unfr, unfr.unfrL, PV.noMem, PV.noMem.noMemL, optI, mapO, norm, forget, hasN, blksLt, List.set, T7, eSmps])
          rw [he]
          unfold c7b0
          simp [evCode, evOps, evOne, evOp, evPur, evEff, evPur.chunks, fillP, AOp.isEff, AO.ev, putP, PV.cells, PV.leaf, getB, scal, binP, unP, minP, maxP, foldP, PV.lt, PV.lt.ltL, endP, expoAll, expo, expo.expoL, frIds, frIds.frIdsL, nodupN, kill, cls, clsFuel, resP, rowsOf, callP, unfr, unfr.unfrL, PV.noMem, PV.noMem.noMemL, optI, mapO, norm, forget, hasN, blksLt, List.set, T7, eSmps]
          unfold c7r0
          have m1 : ((x.seen.length : Nat) + 1) * 16 ≤ 140737488355328 := by omega
          have m2 : x.seen.length + 1 ≤ 140737488355328 := by omega
          by_cases c : (x.seen.any (fun n => n == t)) = true
          · rw [c]
            simp [evCode, evOps, evOne, evOp, evPur, evEff, evPur.chunks, fillP, AOp.isEff, AO.ev, putP, PV.cells, PV.leaf, getB, scal, binP, unP, minP, maxP, foldP, PV.lt, PV.lt.ltL, endP, expoAll, expo, expo.expoL, frIds, frIds.frIdsL, nodupN, kill, cls, clsFuel, resP, rowsOf, callP, unfr, unfr.unfrL, PV.noMem, PV.noMem.noMemL, optI, mapO, norm, forget, hasN, blksLt, List.set, S7, eSmps, nx7, h, hL, h1, c]
          · have c : (x.seen.any (fun n => n == t)) = false := Bool.eq_false_iff.2 c
            rw [c]
            simp [evCode, evOps, evOne, evOp, evPur, evEff, evPur.chunks, fillP, AOp.isEff, AO.ev, putP, PV.cells, PV.leaf, getB, scal, binP, unP, minP, maxP, foldP, PV.lt, PV.lt.ltL, endP, expoAll, expo, expo.expoL, frIds, frIds.frIdsL, nodupN, kill, cls, clsFuel, resP, rowsOf, callP, unfr, unfr.unfrL, PV.noMem, PV.noMem.noMemL, optI, mapO, norm, forget, hasN, blksLt, List.set, S7, eSmps, nx7, h, hL, h1, c, h18, hw, m1, m2])
      (by
        intro x hx s
        unfold c7b1
        simp [evCode, evOps, evOne, evOp, evPur, evEff, evPur.chunks, fillP, AOp.isEff, AO.ev, putP, PV.cells, PV.leaf, getB, scal, binP, unP, minP, maxP, foldP, PV.lt, PV.lt.ltL, endP, expoAll, expo, expo.expoL, frIds, frIds.frIdsL, nodupN, kill, cls, clsFuel, resP, rowsOf, callP, unfr, unfr.unfrL, PV.noMem, PV.noMem.noMemL, optI, mapO, norm, forget, hasN, blksLt, List.set, S7, eSmps]) (by omega) ⟨[], [], 0⟩ ⟨by simp, by simp, by simp [leafSum], by simp, by simp⟩
    rw [hf] at h14
    simp only [eSmps] at h14
    unfold c7
    simp [evCode, evOps, evOne, evOp, evPur, evEff, evPur.chunks, fillP, AOp.isEff, AO.ev, putP, PV.cells, PV.leaf, getB, scal, binP, unP, minP, maxP, foldP, PV.lt, PV.lt.ltL, endP, expoAll, expo, expo.expoL, frIds, frIds.frIdsL, nodupN, kill, cls, clsFuel, resP, rowsOf, callP, unfr, unfr.unfrL, PV.noMem, PV.noMem.noMemL, optI, mapO, norm, forget, hasN, blksLt, List.set, eSmps, h8, h14]
    generalize hE : evLoop _ _ _ _ _ = E
    obtain ⟨g, hx⟩ := H _ _ hE (by simp [evCode, evOps, evOne, evOp, evPur, evEff, evPur.chunks, fillP, AOp.isEff, AO.ev, putP, PV.cells, PV.leaf, getB, scal, binP, unP, minP, maxP, foldP, PV.lt, PV.lt.ltL, endP, expoAll, expo, expo.expoL, frIds, frIds.frIdsL, nodupN, kill, cls, clsFuel, resP, rowsOf, callP, unfr, unfr.unfrL, PV.noMem, PV.noMem.noMemL, optI, mapO, norm, forget, hasN, blksLt, List.set, S7, eSmps])
    rw [g]
    generalize l.foldl (nx7 l) ⟨[], [], 0⟩ = x at hx
    unfold c7b1
    simp [evCode, evOps, evOne, evOp, evPur, evEff, evPur.chunks, fillP, AOp.isEff, AO.ev, putP, PV.cells, PV.leaf, getB, scal, binP, unP, minP, maxP, foldP, PV.lt, PV.lt.ltL, endP, expoAll, expo, expo.expoL, frIds, frIds.frIdsL, nodupN, kill, cls, clsFuel, resP, rowsOf, callP, unfr, unfr.unfrL, PV.noMem, PV.noMem.noMemL, optI, mapO, norm, forget, hasN, blksLt, List.set, S7, eSmps]
    unfold c7r1
    have hb1 : x.bare.length ≤ 40 := by
      rw [hx.2.1]
      have := List.length_filter_le (fun s : Smp => s.st.isEmpty) (l.take l.length)
      have := List.length_take_le l.length l
      omega
    have t1 := f20 l (by omega)
    have t2 := f20 x.bare (by omega)
    have hadd := leaves_add l x hx
    have hS := leafSum_le l x.seen
    have hT := sumW_le (fun _ => true) x.bare
    have hx3 := hx.2.2.1
    have hx1 := hx.1
    have hw := wrap_i64 (x.sum + sumW (fun _ => true) x.bare) (by omega) (by omega)
    have ht : List.take x.bare.length (List.map eSmp x.bare) = List.map eSmp x.bare := List.take_of_length_le (by simp)
    have ht2 : callP (evE Dg) [some ⟨x.seen.length, 1, true, x.seen.map fun t => [.str t]⟩, some ⟨x.bare.length, 4, true, x.bare.map eSmp⟩] false 20 [.own 1 x.bare.length 0 x.bare.length] = some (.int .i64 (sumW (fun _ => true) x.bare), []) := by
      have hc : mapO (cls clsFuel [some ⟨x.seen.length, 1, true, x.seen.map fun t => [.str t]⟩, some ⟨x.bare.length, 4, true, x.bare.map eSmp⟩]) [.own 1 x.bare.length 0 x.bare.length] = some [.sl false 4 (List.take x.bare.length (x.bare.map eSmp))] := by
        simp [mapO, cls, clsFuel, PV.lt, getB]
      unfold callP
      rw [hc, ht]
      simp only [eSmps] at t2
      simp only [t2]
      rfl
    simp only [eSmps] at t1
    simp [evCode, evOps, evOne, evOp, evPur, evEff, evPur.chunks, fillP, AOp.isEff, AO.ev, putP, PV.cells, PV.leaf, getB, scal, binP, unP, minP, maxP, foldP, PV.lt, PV.lt.ltL, endP, expoAll, expo, expo.expoL, frIds, frIds.frIdsL, nodupN, kill, resP, rowsOf, unfr, unfr.unfrL, PV.noMem, PV.noMem.noMemL, optI, norm, forget, hasN, blksLt, List.set, ht2]
    simp [evCode, evOps, evOne, evOp, evPur, evEff, evPur.chunks, fillP, AOp.isEff, AO.ev, putP, PV.cells, PV.leaf, getB, scal, binP, unP, minP, maxP, foldP, PV.lt, PV.lt.ltL, endP, expoAll, expo, expo.expoL, frIds, frIds.frIdsL, nodupN, kill, cls, clsFuel, resP, rowsOf, callP, unfr, unfr.unfrL, PV.noMem, PV.noMem.noMemL, optI, mapO, norm, forget, hasN, blksLt, List.set, t1, hw]
    rw [min_swap]
    exact hadd
  · have hf : few l = false := by simpa using hf
    rw [hf] at h14
    unfold c7
    simp only [eSmps] at h14
    simp [evCode, evOps, evOne, evOp, evPur, evEff, evPur.chunks, fillP, AOp.isEff, AO.ev, putP, PV.cells, PV.leaf, getB, scal, binP, unP, minP, maxP, foldP, PV.lt, PV.lt.ltL, endP, expoAll, expo, expo.expoL, frIds, frIds.frIdsL, nodupN, kill, cls, clsFuel, resP, rowsOf, callP, unfr, unfr.unfrL, PV.noMem, PV.noMem.noMemL, optI, mapO, norm, forget, hasN, blksLt, List.set, eSmps, h8, h14]

theorem law7 (ps : List PV) (h : ArgL Try.prog 12 [36] ps) : evE Dg 7 ps = some (.bool true) := by
  obtain ⟨p, rfl, h1⟩ := argL1 h
  obtain ⟨l, rfl, _⟩ := in_smps h1
  exact f7 l
end Go.Proofs.Ytgipbahlcnageaa
