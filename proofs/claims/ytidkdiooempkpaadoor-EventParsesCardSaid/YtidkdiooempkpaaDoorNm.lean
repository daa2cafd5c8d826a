/- Names, frames, Check. -/
-- LATT
import Derived.Test.YtidkdiooempkpaaDoorAw
namespace Go.Proofs.YtidkdiooempkpaaDoor
open Go Go.RowKit
attribute [local simp] evCode evOps evOne evOp evPur evEff evPur.chunks fillP AOp.isEff AO.ev putP PV.cells PV.leaf getB getM mapE iterE keyC mapRows mfind eq1 eqL scal binP unP minP maxP foldP PV.lt PV.lt.ltL endP expoAll expoG expo expo.expoL frIds frIds.frIdsL nodupN kill cls clsFuel resO RV.get loadP evC_p evC_s endS endT rowsOf callP thinL unfr unfr.unfrL PV.noMem PV.noMem.noMemL optI mapO norm trimT trimB forget hasN blksLt List.set softChk softGo softRd effTg tgOf chgN sameB PV.same PV.same.sameL PV.same.sameLL rdP
set_option linter.unusedVariables false
set_option linter.unusedSimpArgs false

def eTx (l : List (List UInt8)) : PV := .sl false 1 (l.map fun t => [.str t])
def signs : List UInt8 := [95, 46, 58, 47, 60, 62, 36, 42, 126, 45]
def alnum (z : Int) : Bool := (decide (97 ≤ z) && decide (z ≤ 122)) || (decide (65 ≤ z) && decide (z ≤ 90)) || (decide (48 ≤ z) && decide (z ≤ 57))
def letterZ (z : Int) : Bool := alnum z || !signs.all fun b => !((b.toNat : Int) == z)
def nameB (c : UInt8) : Bool := letterZ c.toNat
def isB : Option PV → Bool → Bool
  | some (.bool a), b => a == b
  | _, _ => false
theorem isB_eq {x : Option PV} {b : Bool} (h : isB x b = true) : x = some (.bool b) := by
  unfold isB at h
  split at h
  · simp at h; subst h; rfl
  · cases h
theorem bytes_all : (List.range 256).all (fun n => isB ((evF Dg 9).p 42 [.int .u8 (n : Int)]) (letterZ (n : Int))) = true := by kernel_rfl
theorem f42 (c : UInt8) : evE Dg 42 [.int .u8 (c.toNat : Int)] = some (.bool (nameB c)) := by
  have := List.all_eq_true.1 bytes_all c.toNat (List.mem_range.2 c.toNat_lt)
  exact evE_of (isB_eq this)

def S43 (z : Int) (k : Nat) : St := ⟨[.int .u8 z, .top, .top, .str signs, .int .i64 k] ++ List.replicate 33 .top, []⟩
theorem f43z (z : Int) : evE Dg 43 [.int .u8 z] = some (.bool (letterZ z)) := by
  refine evE_intro 11 D43 rfl ?_
  have H := loop_all (body := evCode (evC Dg) 11 c43b0) (keep := [0, 3, 4]) (n0 := 0) (fuel := 11) signs (S43 z) (fun b => !((b.toNat : Int) == z)) (fun t => t.sl[2]?.getD .top = .bool true)
    (by
      intro k a ha hk hq
      have hk2 : k < 10 := hk
      have hk' : (k : Int) < 10 := by omega
      have h1 := wrap_i64 ((k : Int) + 1) (by omega) (by omega)
      have h3 : ((a.toNat : Int) == z) = false := by simpa using hq
      have hlen : signs.length = 10 := rfl
      unfold c43b0
      simp [S43, ha, hk', h1, h3, hlen])
    (by
      intro k a ha hk hq
      have hk2 : k < 10 := hk
      have hk' : (k : Int) < 10 := by omega
      have h3 : ((a.toNat : Int) == z) = true := by simpa using hq
      have hlen : signs.length = 10 := rfl
      unfold c43b0
      simp [S43, ha, hk', h3, hlen])
    (by
      intro s
      have hlen : signs.length = 10 := rfl
      unfold c43b0
      simp [S43, hlen]) (by decide)
  by_cases i0 : z < 48
  · have e0 : ¬ ((97:Int) ≤ z) := by omega
    have e1 : (z ≤ (122:Int)) := by omega
    have e2 : ¬ ((65:Int) ≤ z) := by omega
    have e3 : (z ≤ (90:Int)) := by omega
    have e4 : ¬ ((48:Int) ≤ z) := by omega
    have e5 : (z ≤ (57:Int)) := by omega
    have hal : alnum z = false := by simp [alnum]; omega
    unfold c43
    simp [e0, e1, e2, e3, e4, e5]
    generalize hE : evLoop _ _ _ _ _ = E
    rcases H _ _ hE (by simp [S43, signs]) with ⟨g1, g2⟩ | ⟨g1, t, g2, g3⟩
    · rw [g2]
      have hlen : signs.length = 10 := rfl
      unfold c43b0
      simp [S43, hlen]
      simp only [letterZ, hal, g1]; rfl
    · rw [g2]
      simp [g3]
      simp only [letterZ, hal, g1]; rfl
  by_cases i1 : z ≤ 57
  · have e0 : ¬ ((97:Int) ≤ z) := by omega
    have e1 : (z ≤ (122:Int)) := by omega
    have e2 : ¬ ((65:Int) ≤ z) := by omega
    have e3 : (z ≤ (90:Int)) := by omega
    have e4 : ((48:Int) ≤ z) := by omega
    have e5 : (z ≤ (57:Int)) := by omega
    have hal : alnum z = true := by simp [alnum]; omega
    unfold c43
    simp [e0, e1, e2, e3, e4, e5]
    simp only [letterZ, hal]; rfl
  by_cases i2 : z < 65
  · have e0 : ¬ ((97:Int) ≤ z) := by omega
    have e1 : (z ≤ (122:Int)) := by omega
    have e2 : ¬ ((65:Int) ≤ z) := by omega
    have e3 : (z ≤ (90:Int)) := by omega
    have e4 : ((48:Int) ≤ z) := by omega
    have e5 : ¬ (z ≤ (57:Int)) := by omega
    have hal : alnum z = false := by simp [alnum]; omega
    unfold c43
    simp [e0, e1, e2, e3, e4, e5]
    generalize hE : evLoop _ _ _ _ _ = E
    rcases H _ _ hE (by simp [S43, signs]) with ⟨g1, g2⟩ | ⟨g1, t, g2, g3⟩
    · rw [g2]
      have hlen : signs.length = 10 := rfl
      unfold c43b0
      simp [S43, hlen]
      simp only [letterZ, hal, g1]; rfl
    · rw [g2]
      simp [g3]
      simp only [letterZ, hal, g1]; rfl
  by_cases i3 : z ≤ 90
  · have e0 : ¬ ((97:Int) ≤ z) := by omega
    have e1 : (z ≤ (122:Int)) := by omega
    have e2 : ((65:Int) ≤ z) := by omega
    have e3 : (z ≤ (90:Int)) := by omega
    have e4 : ((48:Int) ≤ z) := by omega
    have e5 : ¬ (z ≤ (57:Int)) := by omega
    have hal : alnum z = true := by simp [alnum]; omega
    unfold c43
    simp [e0, e1, e2, e3, e4, e5]
    simp only [letterZ, hal]; rfl
  by_cases i4 : z < 97
  · have e0 : ¬ ((97:Int) ≤ z) := by omega
    have e1 : (z ≤ (122:Int)) := by omega
    have e2 : ((65:Int) ≤ z) := by omega
    have e3 : ¬ (z ≤ (90:Int)) := by omega
    have e4 : ((48:Int) ≤ z) := by omega
    have e5 : ¬ (z ≤ (57:Int)) := by omega
    have hal : alnum z = false := by simp [alnum]; omega
    unfold c43
    simp [e0, e1, e2, e3, e4, e5]
    generalize hE : evLoop _ _ _ _ _ = E
    rcases H _ _ hE (by simp [S43, signs]) with ⟨g1, g2⟩ | ⟨g1, t, g2, g3⟩
    · rw [g2]
      have hlen : signs.length = 10 := rfl
      unfold c43b0
      simp [S43, hlen]
      simp only [letterZ, hal, g1]; rfl
    · rw [g2]
      simp [g3]
      simp only [letterZ, hal, g1]; rfl
  by_cases i5 : z ≤ 122
  · have e0 : ((97:Int) ≤ z) := by omega
    have e1 : (z ≤ (122:Int)) := by omega
    have e2 : ((65:Int) ≤ z) := by omega
    have e3 : ¬ (z ≤ (90:Int)) := by omega
    have e4 : ((48:Int) ≤ z) := by omega
    have e5 : ¬ (z ≤ (57:Int)) := by omega
    have hal : alnum z = true := by simp [alnum]; omega
    unfold c43
    simp [e0, e1, e2, e3, e4, e5]
    simp only [letterZ, hal]; rfl
  have e0 : ((97:Int) ≤ z) := by omega
  have e1 : ¬ (z ≤ (122:Int)) := by omega
  have e2 : ((65:Int) ≤ z) := by omega
  have e3 : ¬ (z ≤ (90:Int)) := by omega
  have e4 : ((48:Int) ≤ z) := by omega
  have e5 : ¬ (z ≤ (57:Int)) := by omega
  have hal : alnum z = false := by simp [alnum]; omega
  unfold c43
  simp [e0, e1, e2, e3, e4, e5]
  generalize hE : evLoop _ _ _ _ _ = E
  rcases H _ _ hE (by simp [S43, signs]) with ⟨g1, g2⟩ | ⟨g1, t, g2, g3⟩
  · rw [g2]
    have hlen : signs.length = 10 := rfl
    unfold c43b0
    simp [S43, hlen]
    simp only [letterZ, hal, g1]; rfl
  · rw [g2]
    simp [g3]
    simp only [letterZ, hal, g1]; rfl

theorem f43 (c : UInt8) : evE Dg 43 [.int .u8 (c.toNat : Int)] = some (.bool (nameB c)) := f43z _

def nameOk (s : List UInt8) : Bool := decide (1 ≤ s.length) && decide (s.length ≤ 40) && s.all nameB
def nameE (s : List UInt8) : Int := if nameOk s then 0 else 3

def S22 (s : List UInt8) (k : Nat) : St := ⟨[.str s] ++ List.replicate 12 .top ++ [.int .i64 s.length, .int .i64 k] ++ List.replicate 8 .top, []⟩
theorem f22 (s : List UInt8) : evE Dg 22 [.str s] = some (.int .i64 (nameE s)) := by
  refine evE_intro (s.length + 1) D22 rfl ?_
  by_cases h1 : 1 ≤ s.length
  · have h1' : ¬ ((s.length : Int) < 1) := by omega
    by_cases h2 : s.length ≤ 40
    · have h2' : ¬ ((40 : Int) < s.length) := by omega
      have H := loop_all (body := evCode (evC Dg) (s.length + 1) c22b0) (keep := [0, 13, 14]) (n0 := 0) (fuel := s.length + 1) s (S22 s) nameB (fun t => t.sl[2]?.getD .top = .int .i64 3)
        (by
          intro k a ha hk hq
          have hk' : (k : Int) < s.length := by omega
          have h1 := wrap_i64 ((k : Int) + 1) (by omega) (by omega)
          have h3 := f42 a
          rw [hq] at h3
          unfold c22b0
          simp [S22, ha, hk', h1, h3])
        (by
          intro k a ha hk hq
          have hk' : (k : Int) < s.length := by omega
          have h3 := f42 a
          rw [hq] at h3
          unfold c22b0
          simp [S22, ha, hk', h3])
        (by
          intro s
          unfold c22b0
          simp [S22]) (by omega)
      unfold c22
      simp [h1', h2']
      generalize hE : evLoop _ _ _ _ _ = E
      rcases H _ _ hE (by simp [S22]) with ⟨g1, g2⟩ | ⟨g1, t, g2, g3⟩
      · rw [g2]
        unfold c22b0
        simp [S22]
        simp only [nameE, nameOk, g1, decide_eq_true h1, decide_eq_true h2, Bool.and_self, if_true]
      · rw [g2]
        simp [g3]
        simp only [nameE, nameOk, g1, Bool.and_false, Bool.false_eq_true, if_false]
    · have h2' : ((40 : Int) < s.length) := by omega
      unfold c22
      simp [h1', h2', nameE, nameOk, h2]
  · have h1' : ((s.length : Int) < 1) := by omega
    unfold c22
    have h3 : s = [] := List.eq_nil_of_length_eq_zero (by omega)
    subst h3
    simp [nameE, nameOk]

def S26 (s : List UInt8) (k : Nat) : St := ⟨[.str s, .top, .top, .int .i64 k] ++ List.replicate 19 .top, []⟩
theorem f26 (s : List UInt8) : evE Dg 26 [.str s] = some (.int .i64 (nameE s)) := by
  refine evE_intro (s.length + 1) D26 rfl ?_
  by_cases h1 : 1 ≤ s.length
  · have h1' : ¬ ((s.length : Int) < 1) := by omega
    by_cases h2 : s.length ≤ 40
    · have h2' : ¬ ((40 : Int) < s.length) := by omega
      have H := loop_all (body := evCode (evC Dg) (s.length + 1) c26b0) (keep := [0, 3]) (n0 := 0) (fuel := s.length + 1) s (S26 s) nameB (fun t => t.sl[2]?.getD .top = .int .i64 3)
        (by
          intro k a ha hk hq
          have hk' : (k : Int) < s.length := by omega
          have h1 := wrap_i64 ((k : Int) + 1) (by omega) (by omega)
          have h3 := f43 a
          rw [hq] at h3
          unfold c26b0
          simp [S26, ha, hk', h1, h3])
        (by
          intro k a ha hk hq
          have hk' : (k : Int) < s.length := by omega
          have h3 := f43 a
          rw [hq] at h3
          unfold c26b0
          simp [S26, ha, hk', h3])
        (by
          intro s
          unfold c26b0
          simp [S26]) (by omega)
      unfold c26
      simp [h1', h2']
      generalize hE : evLoop _ _ _ _ _ = E
      rcases H _ _ hE (by simp [S26]) with ⟨g1, g2⟩ | ⟨g1, t, g2, g3⟩
      · rw [g2]
        unfold c26b0
        simp [S26]
        simp only [nameE, nameOk, g1, decide_eq_true h1, decide_eq_true h2, Bool.and_self, if_true]
      · rw [g2]
        simp [g3]
        simp only [nameE, nameOk, g1, Bool.and_false, Bool.false_eq_true, if_false]
    · have h2' : ((40 : Int) < s.length) := by omega
      unfold c26
      simp [h1', h2', nameE, nameOk, h2]
  · have h1' : ((s.length : Int) < 1) := by omega
    unfold c26
    have h3 : s = [] := List.eq_nil_of_length_eq_zero (by omega)
    subst h3
    simp [nameE, nameOk]

def framesE (l : List (List UInt8)) : Int := if 32 < l.length then 7 else if l.all nameOk then 0 else 3

def S23 (l : List (List UInt8)) (k : Nat) : St := ⟨List.replicate 9 .top ++ [eTx l, .int .i64 l.length, .int .i64 k] ++ List.replicate 9 .top, []⟩
theorem f23 (l : List (List UInt8)) : evE Dg 23 [eTx l] = some (.int .i64 (framesE l)) := by
  refine evE_intro (l.length + 1) D23 rfl ?_
  by_cases h2 : l.length ≤ 32
  · have h2' : ¬ ((32 : Int) < l.length) := by omega
    have h2'' : ¬ (32 < l.length) := by omega
    have H := loop_all (body := evCode (evC Dg) (l.length + 1) c23b0) (keep := [9, 10, 11]) (n0 := 0) (fuel := l.length + 1) l (S23 l) nameOk (fun t => t.sl[2]?.getD .top = .int .i64 3)
      (by
        intro k a ha hk hq
        have hk' : (k : Int) < l.length := by omega
        have h1 := wrap_i64 ((k : Int) + 1) (by omega) (by omega)
        have h3 := f22 a
        rw [nameE, hq] at h3
        unfold c23b0
        simp [S23, eTx, ha, hk', h1, h3])
      (by
        intro k a ha hk hq
        have hk' : (k : Int) < l.length := by omega
        have h3 := f22 a
        rw [nameE, hq] at h3
        unfold c23b0
        simp [S23, eTx, ha, hk', h3])
      (by
        intro s
        unfold c23b0
        simp [S23, eTx]) (by omega)
    unfold c23
    simp [eTx, h2']
    generalize hE : evLoop _ _ _ _ _ = E
    rcases H _ _ hE (by simp [S23, eTx]) with ⟨g1, g2⟩ | ⟨g1, t, g2, g3⟩
    · rw [g2]
      unfold c23b0
      simp [S23, eTx]
      simp only [framesE, g1, h2'', if_true, if_false]
    · rw [g2]
      simp [g3]
      simp only [framesE, g1, h2'', Bool.false_eq_true, if_false]
  · have h2' : ((32 : Int) < l.length) := by omega
    have h2'' : 32 < l.length := by omega
    unfold c23
    simp [eTx, h2', framesE, h2'']

def S27 (l : List (List UInt8)) (k : Nat) : St := ⟨[eTx l, .top, .top, .int .i64 k] ++ List.replicate 15 .top, []⟩
theorem f27 (l : List (List UInt8)) : evE Dg 27 [eTx l] = some (.int .i64 (framesE l)) := by
  refine evE_intro (l.length + 1) D27 rfl ?_
  by_cases h2 : l.length ≤ 32
  · have h2' : ¬ ((32 : Int) < l.length) := by omega
    have h2'' : ¬ (32 < l.length) := by omega
    have H := loop_all (body := evCode (evC Dg) (l.length + 1) c27b0) (keep := [0, 3]) (n0 := 0) (fuel := l.length + 1) l (S27 l) nameOk (fun t => t.sl[2]?.getD .top = .int .i64 3)
      (by
        intro k a ha hk hq
        have hk' : (k : Int) < l.length := by omega
        have h1 := wrap_i64 ((k : Int) + 1) (by omega) (by omega)
        have h3 := f26 a
        rw [nameE, hq] at h3
        unfold c27b0
        simp [S27, eTx, ha, hk', h1, h3])
      (by
        intro k a ha hk hq
        have hk' : (k : Int) < l.length := by omega
        have h3 := f26 a
        rw [nameE, hq] at h3
        unfold c27b0
        simp [S27, eTx, ha, hk', h3])
      (by
        intro s
        unfold c27b0
        simp [S27, eTx]) (by omega)
    unfold c27
    simp [eTx, h2']
    generalize hE : evLoop _ _ _ _ _ = E
    rcases H _ _ hE (by simp [S27, eTx]) with ⟨g1, g2⟩ | ⟨g1, t, g2, g3⟩
    · rw [g2]
      unfold c27b0
      simp [S27, eTx]
      simp only [framesE, g1, h2'', if_true, if_false]
    · rw [g2]
      simp [g3]
      simp only [framesE, g1, h2'', Bool.false_eq_true, if_false]
  · have h2' : ((32 : Int) < l.length) := by omega
    have h2'' : 32 < l.length := by omega
    unfold c27
    simp [eTx, h2', framesE, h2'']
end Go.Proofs.YtidkdiooempkpaaDoor
