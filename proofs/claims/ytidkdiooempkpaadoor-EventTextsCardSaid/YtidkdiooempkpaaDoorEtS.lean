/- event: read (written by mkEtS.py). -/
-- LATT
-- BIG
import Derived.Test.YtidkdiooempkpaaDoorEtR
namespace Go.Proofs.YtidkdiooempkpaaDoor
open Go Go.RowKit Go.Lib
attribute [local simp] evCode evOps evOne evOp evPur evEff evPur.chunks fillP AOp.isEff AO.ev putP PV.cells PV.leaf getB getM mapE iterE keyC mapRows mfind eq1 eqL scal binP unP minP maxP foldP PV.lt PV.lt.ltL endP expoAll expoG expo expo.expoL frIds frIds.frIdsL nodupN kill cls clsFuel resO RV.get loadP evC_p evC_s endS endT rowsOf callP thinL unfr unfr.unfrL PV.noMem PV.noMem.noMemL optI mapO norm trimT trimB forget hasN blksLt List.set softChk softGo softRd effTg tgOf chgN sameB PV.same PV.same.sameL PV.same.sameLL rdP
set_option linter.unusedVariables false
set_option linter.unusedSimpArgs false
set_option maxHeartbeats 4000000
set_option maxRecDepth 100000

theorem loop36 (x : Bool) (W : List (List UInt8)) (a : Int) (w : List UInt8) (E : Option Out) (s0 : St) (hE : evLoop (evCode (evC Dg) 14 c36b0) [2, 5, 6, 7, 8, 21, 22] 5 14 s0 = E) (h0 : norm [2, 5, 6, 7, 8, 21, 22] 5 s0 = S36 x W a w 0) :
    E = evCode (evC Dg) 14 c36b0 (S36 x W a w 13) := by
  have H := loop_all (body := evCode (evC Dg) 14 c36b0) (keep := [2, 5, 6, 7, 8, 21, 22]) (n0 := 5) (fuel := 14) (List.range 13) (S36 x W a w) (fun _ => true) (fun _ => False)
    (by
      intro k t _ hk _
      exact step36 x W a w k (by simpa using hk))
    (by intro k t ht hk hq; cases hq)
    (by
      intro s
      rw [List.length_range]
      unfold c36b0
      simp (maxSteps := 100000000) [S36])
    (by simp) s0 E hE h0
  rcases H with ⟨q1, q2⟩ | ⟨q1, s, q2, q3⟩
  · rw [q2, List.length_range]
  · cases q3
theorem kSo13 (w : List UInt8) : kSo w 13 = kOf w := by
  by_cases h1 : w = kW 1
  · subst h1; decide
  by_cases h2 : w = kW 2
  · subst h2; decide
  by_cases h3 : w = kW 3
  · subst h3; decide
  by_cases h4 : w = kW 4
  · subst h4; decide
  by_cases h5 : w = kW 5
  · subst h5; decide
  by_cases h6 : w = kW 6
  · subst h6; decide
  by_cases h7 : w = kW 7
  · subst h7; decide
  by_cases h8 : w = kW 8
  · subst h8; decide
  by_cases h9 : w = kW 9
  · subst h9; decide
  by_cases h10 : w = kW 10
  · subst h10; decide
  by_cases h11 : w = kW 11
  · subst h11; decide
  by_cases h12 : w = kW 12
  · subst h12; decide
  simp [kSo, kOf, h1, h2, h3, h4, h5, h6, h7, h8, h9, h10, h11, h12, Ne.symm, eq_comm (b := w)]
theorem tabL_take : List.take 91 tabL = tabL := by rw [← tabL_len]; exact List.take_length
theorem nb20 : Nat.blt 2 0 = false := rfl
theorem nb00 : Nat.blt 0 0 = false := rfl
theorem gtab_at : gcells 0 = .cptr tabL := rfl
theorem f36_no (x : Bool) (W : List (List UInt8)) (hW : W.length ≤ 1000000000) (hl : (wAt W 0).length ≤ lim) (hk : kOf (wAt W 1) = 0) :
    evE Dg 36 [.sl x 1 (tR W)] = some (.tup [.agg [.int .i64 0, .int .i64 0, .str [], .int .i64 0, .int .i64 0, .nilS], .bool false]) := by
  have h0 := g50 x W 0 0 1 rfl rfl (by omega) hW hl
  have h1 := g49 x W 1 1 2 rfl rfl (by omega) hW
  have H := loop36 x W (pV (wAt W 0)) (wAt W 1)
  have hs := kSo13 (wAt W 1)
  rw [hk] at hs
  have h21 := f21_no 0 (.inl (by decide))
  generalize wAt W 0 = w0 at *
  generalize wAt W 1 = w1 at *
  refine evE_intro 14 D36 rfl ?_
  unfold c36
  simp (maxSteps := 100000000) [h0, h1, gtab_at, tabL_len, tabL_take, tabL_lt4, tabL_lt5, nb20, nb00]
  generalize hE : evLoop _ _ _ _ _ = E
  have g := H _ _ hE (by simp (maxSteps := 100000000) [S36, kSo, tabL_len, tabL_take, tabL_lt4, tabL_lt5, tabL_lt6])
  rw [g]
  unfold c36b0
  simp (maxSteps := 100000000) [S36, hs]
  unfold c36r0
  simp (maxSteps := 100000000) [h21]
end Go.Proofs.YtidkdiooempkpaaDoor
