/- event: a stack that a kind does not have, made new (written by mkEt2). -/
-- LATT
-- BIG
import Derived.Test.YtidkdiooempkpaaDoorEtE
namespace Go.Proofs.YtidkdiooempkpaaDoor
open Go Go.RowKit
attribute [local simp] evCode evOps evOne evOp evPur evEff evPur.chunks fillP AOp.isEff AO.ev putP PV.cells PV.leaf getB getM mapE iterE keyC mapRows mfind eq1 eqL scal binP unP minP maxP foldP PV.lt PV.lt.ltL endP expoAll expoG expo expo.expoL frIds frIds.frIdsL nodupN kill cls clsFuel resO RV.get loadP evC_p evC_s endS endT rowsOf callP thinL unfr unfr.unfrL PV.noMem PV.noMem.noMemL optI mapO norm trimT trimB forget hasN blksLt List.set softChk softGo softRd effTg tgOf chgN sameB PV.same PV.same.sameL PV.same.sameLL rdP
set_option linter.unusedVariables false
set_option linter.unusedSimpArgs false
set_option maxHeartbeats 4000000
set_option maxRecDepth 100000

theorem f11t_0 (a k : Int) (nm s : List UInt8) (n m : Int) (at1 : ¬ a < 0) (at2 : ¬ 1000000000000 < a) (w : List UInt8) (lo hi : Int) (h21 : evE Dg 21 [.int .i64 k] = some (.tup [.agg [.str w, .bool true, .bool false, .bool false, .bool false, .int .i64 lo, .int .i64 hi], .bool true])) :
    evE Dg 11 [.agg [.int .i64 a, .int .i64 k, .str nm, .int .i64 0, .int .i64 0, .sl true 1 [[.str s]]]] = some (.int .i64 1) := by
  refine evE_intro 1 D11 rfl ?_
  unfold c11
  simp (maxSteps := 100000000) [h21, at1, at2]
theorem f11t_1 (a k : Int) (nm s : List UInt8) (n m : Int) (at1 : ¬ a < 0) (at2 : ¬ 1000000000000 < a) (w : List UInt8) (lo hi : Int) (h21 : evE Dg 21 [.int .i64 k] = some (.tup [.agg [.str w, .bool false, .bool false, .bool false, .bool false, .int .i64 lo, .int .i64 hi], .bool true])) :
    evE Dg 11 [.agg [.int .i64 a, .int .i64 k, .str [], .int .i64 0, .int .i64 0, .sl true 1 [[.str s]]]] = some (.int .i64 1) := by
  refine evE_intro 1 D11 rfl ?_
  unfold c11
  simp (maxSteps := 100000000) [h21, at1, at2]
theorem f11t_2 (a k : Int) (nm s : List UInt8) (n m : Int) (at1 : ¬ a < 0) (at2 : ¬ 1000000000000 < a) (w : List UInt8) (lo hi : Int) (h21 : evE Dg 21 [.int .i64 k] = some (.tup [.agg [.str w, .bool true, .bool true, .bool false, .bool false, .int .i64 lo, .int .i64 hi], .bool true])) :
    evE Dg 11 [.agg [.int .i64 a, .int .i64 k, .str nm, .int .i64 n, .int .i64 0, .sl true 1 [[.str s]]]] = some (.int .i64 1) := by
  refine evE_intro 1 D11 rfl ?_
  unfold c11
  simp (maxSteps := 100000000) [h21, at1, at2]
theorem f11t_4 (a k : Int) (nm s : List UInt8) (n m : Int) (at1 : ¬ a < 0) (at2 : ¬ 1000000000000 < a) (w : List UInt8) (lo hi : Int) (h21 : evE Dg 21 [.int .i64 k] = some (.tup [.agg [.str w, .bool false, .bool true, .bool false, .bool false, .int .i64 lo, .int .i64 hi], .bool true])) :
    evE Dg 11 [.agg [.int .i64 a, .int .i64 k, .str [], .int .i64 n, .int .i64 0, .sl true 1 [[.str s]]]] = some (.int .i64 1) := by
  refine evE_intro 1 D11 rfl ?_
  unfold c11
  simp (maxSteps := 100000000) [h21, at1, at2]
theorem f11t_5 (a k : Int) (nm s : List UInt8) (n m : Int) (at1 : ¬ a < 0) (at2 : ¬ 1000000000000 < a) (w : List UInt8) (lo hi : Int) (h21 : evE Dg 21 [.int .i64 k] = some (.tup [.agg [.str w, .bool false, .bool true, .bool true, .bool false, .int .i64 lo, .int .i64 hi], .bool true])) :
    evE Dg 11 [.agg [.int .i64 a, .int .i64 k, .str [], .int .i64 n, .int .i64 m, .sl true 1 [[.str s]]]] = some (.int .i64 1) := by
  refine evE_intro 1 D11 rfl ?_
  unfold c11
  simp (maxSteps := 100000000) [h21, at1, at2]
theorem chk_ok {a b c d : Bool} {e : Ev} {r : Int} (h : chkC a b c d e r = 0) : (a = false → e.name = []) ∧ (b = false → e.n = 0) ∧ (c = false → e.m = 0) ∧ (d = false → e.st = []) ∧ (a = true → nameOk e.name = true) := by
  unfold chkC at h
  split at h
  · cases h
  · rename_i hn
    refine ⟨fun ha => Decidable.byContradiction fun h0 => hn (.inl ⟨ha, h0⟩), fun ha => Decidable.byContradiction fun h0 => hn (.inr (.inl ⟨ha, h0⟩)), fun ha => Decidable.byContradiction fun h0 => hn (.inr (.inr (.inl ⟨ha, h0⟩))), fun ha => Decidable.byContradiction fun h0 => hn (.inr (.inr (.inr ⟨ha, h0⟩))), fun ha => ?_⟩
    split at h
    · cases h
    · rename_i h2
      cases hk : nameOk e.name with
      | true => rfl
      | false => exact absurd ⟨ha, hk⟩ h2
theorem err_ok {e : Ev} (h : errV e = 0) : (¬ e.at_ < 0) ∧ (¬ 1000000000000 < e.at_) ∧ (¬ e.k < 1) ∧ (¬ 12 < e.k) ∧ chkC (kA e.k) (kB e.k) (kC e.k) (kD e.k) e (numV e) = 0 := by
  unfold errV at h
  split at h
  · cases h
  · rename_i h1
    split at h
    · cases h
    · rename_i h2
      exact ⟨fun x => h1 (.inl x), fun x => h1 (.inr x), fun x => h2 (.inl x), fun x => h2 (.inr x), h⟩
theorem f11t (e : Ev) (s : List UInt8) (h : errV e = 0) (hd : kD e.k = false) : evE Dg 11 [.agg [.int .i64 e.at_, .int .i64 e.k, .str e.name, .int .i64 e.n, .int .i64 e.m, .sl true 1 [[.str s]]]] = some (.int .i64 1) := by
  obtain ⟨a1, a2, k1, k2, hc⟩ := err_ok h
  have h21 := f21 e.k k1 k2
  obtain ⟨x1, x2, x3, x4, x5⟩ := chk_ok hc
  rcases combo k1 k2 with ⟨a, b, c, d⟩ | ⟨a, b, c, d⟩ | ⟨a, b, c, d⟩ | ⟨a, b, c, d⟩ | ⟨a, b, c, d⟩ | ⟨a, b, c, d⟩ | ⟨a, b, c, d⟩ <;> rw [a, b, c, d] at h21
  · rw [x2 b, x3 c]; exact f11t_0 _ _ _ _ 0 0 a1 a2 _ _ _ h21
  · rw [x1 a, x2 b, x3 c]; exact f11t_1 _ _ [] _ 0 0 a1 a2 _ _ _ h21
  · rw [x3 c]; exact f11t_2 _ _ _ _ _ 0 a1 a2 _ _ _ h21
  · rw [hd] at d; cases d
  · rw [x1 a, x3 c]; exact f11t_4 _ _ [] _ _ 0 a1 a2 _ _ _ h21
  · rw [x1 a]; exact f11t_5 _ _ [] _ _ _ a1 a2 _ _ _ h21
  · rw [hd] at d; cases d
/-- an event with another name, or another number -/
theorem err_name {e : Ev} {s : List UInt8} (h : errV e = 0) (h0 : e.name = []) (hs : ¬ s = []) : errV { e with name := s } = 1 := by
  obtain ⟨a1, a2, k1, k2, hc⟩ := err_ok h
  obtain ⟨x1, x2, x3, x4, x5⟩ := chk_ok hc
  have ha : kA e.k = false := by
    cases ha : kA e.k with
    | false => rfl
    | true =>
      have := x5 ha
      rw [h0] at this
      cases this
  unfold errV
  simp only [a1, a2, k1, k2, or_self, if_false]
  unfold chkC
  rw [if_pos (.inl ⟨ha, hs⟩)]
theorem err_num {e : Ev} {n : Int} (h : errV e = 0) (hb : kB e.k = false) (hn : ¬ n = 0) : errV { e with n := n } = 1 := by
  obtain ⟨a1, a2, k1, k2, hc⟩ := err_ok h
  unfold errV
  simp only [a1, a2, k1, k2, or_self, if_false]
  unfold chkC
  rw [if_pos (.inr (.inl ⟨hb, hn⟩))]
end Go.Proofs.YtidkdiooempkpaaDoor
