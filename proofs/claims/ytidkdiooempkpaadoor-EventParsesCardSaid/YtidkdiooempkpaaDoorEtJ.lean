/- event: Same of both. -/
-- LATT
import Derived.Test.YtidkdiooempkpaaDoorEtI
namespace Go.Proofs.YtidkdiooempkpaaDoor
open Go Go.RowKit Go.Lib
attribute [local simp] evCode evOps evOne evOp evPur evEff evPur.chunks fillP AOp.isEff AO.ev putP PV.cells PV.leaf getB getM mapE iterE keyC mapRows mfind eq1 eqL scal binP unP minP maxP foldP PV.lt PV.lt.ltL endP expoAll expoG expo expo.expoL frIds frIds.frIdsL nodupN kill cls clsFuel resO RV.get loadP evC_p evC_s endS endT rowsOf callP thinL unfr unfr.unfrL PV.noMem PV.noMem.noMemL optI mapO norm trimT trimB forget hasN blksLt List.set softChk softGo softRd effTg tgOf chgN sameB PV.same PV.same.sameL PV.same.sameLL rdP
set_option linter.unusedVariables false
set_option linter.unusedSimpArgs false
set_option maxHeartbeats 4000000
set_option maxRecDepth 100000

theorem zip_get {α β : Type} {a : List α} {b : List β} {k : Nat} {p : α × β} (h : (a.zip b)[k]? = some p) : a[k]? = some p.1 ∧ b[k]? = some p.2 := by
  rw [List.getElem?_zip_eq_some] at h
  exact h
theorem zip_all {α : Type} [DecidableEq α] : ∀ {a b : List α}, a.length = b.length → ((a.zip b).all (fun p => decide (p.1 = p.2)) = true ↔ a = b)
  | [], [], _ => by simp
  | x :: a, [], h => by simp at h
  | [], y :: b, h => by simp at h
  | x :: a, y :: b, h => by
    have ih := zip_all (a := a) (b := b) (by simpa using h)
    simp only [List.zip_cons_cons, List.all_cons, Bool.and_eq_true, decide_eq_true_eq, ih, List.cons.injEq]

def S41 (x y : Bool) (a b : List (List UInt8)) (k : Nat) : St := ⟨[.sl x 1 (tR a), .sl y 1 (tR b)] ++ List.replicate 10 .top ++ [.int .i64 a.length, .int .i64 k] ++ List.replicate 12 .top, []⟩
theorem f41 (x y : Bool) (a b : List (List UInt8)) (ha : a.length ≤ 1000000000000) : evE Dg 41 [.sl x 1 (tR a), .sl y 1 (tR b)] = some (.bool (decide (a = b))) := by
  have e1 := tR_len a
  by_cases hl : a.length = b.length
  · have e2 : (tR b).length = a.length := by rw [tR_len, hl]
    have hz : (a.zip b).length = a.length := by simp [hl]
    have H := loop_all (body := evCode (evC Dg) (a.length + 1) c41b0) (keep := [0, 1, 12, 13]) (n0 := 0) (fuel := a.length + 1) (a.zip b) (S41 x y a b) (fun p => decide (p.1 = p.2)) (fun t => t.sl[4]?.getD .top = .bool false)
      (by
        rintro k ⟨s, u⟩ hp hk hq
        obtain ⟨h1, h2⟩ := zip_get hp
        simp only [decide_eq_true_eq] at h1 h2 hq
        subst hq
        rw [hz] at hk
        have r1 := tR_get h1
        have r2 := tR_get h2
        have g1 := tR_got h1
        have g2 := tR_got h2
        have hk' : (k : Int) < a.length := by omega
        have w1 := wrap_i64 ((k : Int) + 1) (by omega) (by omega)
        unfold c41b0
        simp [S41, e1, e2, r1, r2, g1, g2, hk', hk, w1])
      (by
        rintro k ⟨s, u⟩ hp hk hq
        obtain ⟨h1, h2⟩ := zip_get hp
        simp only [decide_eq_false_iff_not] at h1 h2 hq
        rw [hz] at hk
        have r1 := tR_get h1
        have r2 := tR_get h2
        have g1 := tR_got h1
        have g2 := tR_got h2
        have hk' : (k : Int) < a.length := by omega
        unfold c41b0
        simp [S41, e1, e2, r1, r2, g1, g2, hk', hk, hq])
      (by
        intro s
        rw [hz]
        unfold c41b0
        simp [S41, e1, e2])
      (by rw [hz]; omega)
    refine evE_intro (a.length + 1) D41 rfl ?_
    unfold c41
    simp [e1, e2]
    generalize hE : evLoop _ _ _ _ _ = E
    rcases H _ _ hE (by simp [S41]) with ⟨q1, q2⟩ | ⟨q1, s, q2, q3⟩
    · rw [zip_all hl] at q1
      subst q1
      rw [q2, hz]
      unfold c41b0
      simp [S41, e1, e2]
    · have : ¬ a = b := fun h => by rw [(zip_all hl).2 h] at q1; cases q1
      rw [q2]
      simp [q3, this]
  · have : ¬ a = b := fun h => hl (by rw [h])
    have e2 := tR_len b
    have hl' : ¬ ((a.length : Int) = b.length) := by omega
    refine evE_intro 1 D41 rfl ?_
    unfold c41
    simp [e1, e2, hl, hl', this]
def S38 (x y : Bool) (a b : List (List UInt8)) (k : Nat) : St := ⟨[.sl x 1 (tR a), .sl y 1 (tR b)] ++ List.replicate 3 .top ++ [.int .i64 k] ++ List.replicate 20 .top, []⟩
theorem f38 (x y : Bool) (a b : List (List UInt8)) (ha : a.length ≤ 1000000000000) : evE Dg 38 [.sl x 1 (tR a), .sl y 1 (tR b)] = some (.bool (decide (a = b))) := by
  have e1 := tR_len a
  by_cases hl : a.length = b.length
  · have e2 : (tR b).length = a.length := by rw [tR_len, hl]
    have hz : (a.zip b).length = a.length := by simp [hl]
    have H := loop_all (body := evCode (evC Dg) (a.length + 1) c38b0) (keep := [0, 1, 5]) (n0 := 0) (fuel := a.length + 1) (a.zip b) (S38 x y a b) (fun p => decide (p.1 = p.2)) (fun t => t.sl[4]?.getD .top = .bool false)
      (by
        rintro k ⟨s, u⟩ hp hk hq
        obtain ⟨h1, h2⟩ := zip_get hp
        simp only [decide_eq_true_eq] at h1 h2 hq
        subst hq
        rw [hz] at hk
        have r1 := tR_get h1
        have r2 := tR_get h2
        have g1 := tR_got h1
        have g2 := tR_got h2
        have hk' : (k : Int) < a.length := by omega
        have w1 := wrap_i64 ((k : Int) + 1) (by omega) (by omega)
        unfold c38b0
        simp [S38, e1, e2, r1, r2, g1, g2, hk', hk, w1])
      (by
        rintro k ⟨s, u⟩ hp hk hq
        obtain ⟨h1, h2⟩ := zip_get hp
        simp only [decide_eq_false_iff_not] at h1 h2 hq
        rw [hz] at hk
        have r1 := tR_get h1
        have r2 := tR_get h2
        have g1 := tR_got h1
        have g2 := tR_got h2
        have hk' : (k : Int) < a.length := by omega
        unfold c38b0
        simp [S38, e1, e2, r1, r2, g1, g2, hk', hk, hq])
      (by
        intro s
        rw [hz]
        unfold c38b0
        simp [S38, e1, e2])
      (by rw [hz]; omega)
    refine evE_intro (a.length + 1) D38 rfl ?_
    unfold c38
    simp [e1, e2]
    generalize hE : evLoop _ _ _ _ _ = E
    rcases H _ _ hE (by simp [S38]) with ⟨q1, q2⟩ | ⟨q1, s, q2, q3⟩
    · rw [zip_all hl] at q1
      subst q1
      rw [q2, hz]
      unfold c38b0
      simp [S38, e1, e2]
    · have : ¬ a = b := fun h => by rw [(zip_all hl).2 h] at q1; cases q1
      rw [q2]
      simp [q3, this]
  · have : ¬ a = b := fun h => hl (by rw [h])
    have e2 := tR_len b
    have hl' : ¬ ((a.length : Int) = b.length) := by omega
    refine evE_intro 1 D38 rfl ?_
    unfold c38
    simp [e1, e2, hl, hl', this]
/-- an event's value, its stack lent or own -/
def eX (x : Bool) (e : Ev) : PV := .agg [.int .i64 e.at_, .int .i64 e.k, .str e.name, .int .i64 e.n, .int .i64 e.m, .sl x 1 (tR e.st)]
def smE (a b : Ev) : Bool := decide (a.at_ = b.at_) && decide (a.k = b.k) && decide (a.name = b.name) && decide (a.n = b.n) && decide (a.m = b.m) && decide (a.st = b.st)
theorem smE_iff (a b : Ev) : smE a b = true ↔ a = b := by
  obtain ⟨a1, a2, a3, a4, a5, a6⟩ := a
  obtain ⟨b1, b2, b3, b4, b5, b6⟩ := b
  simp only [smE, Bool.and_eq_true, decide_eq_true_eq, Ev.mk.injEq, and_assoc]
theorem f18 (x y : Bool) (a b : Ev) (ha : a.st.length ≤ 1000000000000) : evE Dg 18 [eX x a, eX y b] = some (.bool (smE a b)) := by
  have h41 := f41 x y a.st b.st ha
  unfold smE eX
  refine evE_intro 1 D18 rfl ?_
  unfold c18
  by_cases h1 : a.at_ = b.at_
  · by_cases h2 : a.k = b.k
    · by_cases h3 : a.name = b.name
      · by_cases h4 : a.n = b.n
        · by_cases h5 : a.m = b.m
          · simp [eq_true h1, eq_true h2, eq_true h3, eq_true h4, eq_true h5, h41]
          · simp [eq_true h1, eq_true h2, eq_true h3, eq_true h4, h5]
        · simp [eq_true h1, eq_true h2, eq_true h3, h4]
      · simp [eq_true h1, eq_true h2, h3]
    · simp [eq_true h1, h2]
  · simp [h1]
theorem f16 (x y : Bool) (a b : Ev) (ha : a.st.length ≤ 1000000000000) : evE Dg 16 [eX x a, eX y b] = some (.bool (smE a b)) := by
  have h38 := f38 x y a.st b.st ha
  unfold smE eX
  refine evE_intro 1 D16 rfl ?_
  unfold c16
  by_cases h1 : a.at_ = b.at_
  · by_cases h2 : a.k = b.k
    · by_cases h3 : a.name = b.name
      · by_cases h4 : a.n = b.n
        · by_cases h5 : a.m = b.m
          · simp [eq_true h1, eq_true h2, eq_true h3, eq_true h4, eq_true h5, h38]
          · simp [eq_true h1, eq_true h2, eq_true h3, eq_true h4, h5]
        · simp [eq_true h1, eq_true h2, eq_true h3, h4]
      · simp [eq_true h1, eq_true h2, h3]
    · simp [eq_true h1, h2]
  · simp [h1]

end Go.Proofs.YtidkdiooempkpaaDoor
