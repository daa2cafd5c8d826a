/- event: the kind of a word (read's loop). -/
-- LATT
-- BIG
import Derived.Test.YtidkdiooempkpaaDoorEtQ
import Derived.Test.YtidkdiooempkpaaDoorEtNA
namespace Go.Proofs.YtidkdiooempkpaaDoor
open Go Go.RowKit Go.Lib
attribute [local simp] evCode evOps evOne evOp evPur evEff evPur.chunks fillP AOp.isEff AO.ev putP PV.cells PV.leaf getB getM mapE iterE keyC mapRows mfind eq1 eqL scal binP unP minP maxP foldP PV.lt PV.lt.ltL endP expoAll expoG expo expo.expoL frIds frIds.frIdsL nodupN kill cls clsFuel resO RV.get loadP evC_p evC_s endS endT rowsOf callP thinL unfr unfr.unfrL PV.noMem PV.noMem.noMemL optI mapO norm trimT trimB forget hasN blksLt List.set softChk softGo softRd effTg tgOf chgN sameB PV.same PV.same.sameL PV.same.sameLL rdP
set_option linter.unusedVariables false
set_option linter.unusedSimpArgs false
set_option maxHeartbeats 4000000
set_option maxRecDepth 100000

theorem g49 (x : Bool) (W : List (List UInt8)) (n : Nat) (z z' : Int) (hz : z = n) (hz' : z' = n + 1) (hn : n ≤ 1000000) (hW : W.length ≤ 1000000000) :
    ∀ b r, evS Dg 49 [.ptr 2 1 0 0, .ptr 0 1 0 0] (some ⟨1, 1, true, [[.sl x 1 (tR W)]]⟩ :: b :: some ⟨1, 1, true, [[.int .i64 z]]⟩ :: r) =
      some (.str (wAt W n), some ⟨1, 1, true, [[.sl x 1 (tR W)]]⟩ :: b :: some ⟨1, 1, true, [[.int .i64 z']]⟩ :: r) := by
  intro b r
  have h := f49 x W b n r hn hW
  have e : z' = ((n + 1 : Nat) : Int) := by omega
  rw [hz, e]
  exact h
theorem g50 (x : Bool) (W : List (List UInt8)) (n : Nat) (z z' : Int) (hz : z = n) (hz' : z' = n + 1) (hn : n ≤ 1000000) (hW : W.length ≤ 1000000000) (hl : (wAt W n).length ≤ lim) :
    ∀ b r, evS Dg 50 [.ptr 3 1 0 0] (some ⟨1, 1, true, [[.sl x 1 (tR W)]]⟩ :: b :: some ⟨1, 1, true, [[.int .i64 z]]⟩ :: some ⟨1, 1, false, [[.fn 49 [.ptr 2 1 0 0, .ptr 0 1 0 0]]]⟩ :: r) =
      some (.int .i64 (pV (wAt W n)), some ⟨1, 1, true, [[.sl x 1 (tR W)]]⟩ :: b :: some ⟨1, 1, true, [[.int .i64 z']]⟩ :: some ⟨1, 1, false, [[.fn 49 [.ptr 2 1 0 0, .ptr 0 1 0 0]]]⟩ :: r) := by
  intro b r
  have h := f50 x W b n r hn hW hl
  have e : z' = ((n + 1 : Nat) : Int) := by omega
  rw [hz, e]
  exact h
def kSo (w : List UInt8) : Nat → Int
  | 0 => 0
  | k + 1 => if 0 < k ∧ kW k = w then k else kSo w k
def tabL : List PV := ((gtab 0).getD []).map ofVal
theorem tabL_len : tabL.length = 91 := by kernel_rfl
theorem tabL_lt4 : PV.lt.ltL 4 tabL = true := by kernel_rfl
theorem tabL_lt5 : PV.lt.ltL 5 tabL = true := by kernel_rfl
theorem tabL_lt6 : PV.lt.ltL 6 tabL = true := by kernel_rfl
theorem tab_0 : List.take 7 tabL = [.str [], .bool false, .bool false, .bool false, .bool false, .int .i64 0, .int .i64 0] := by kernel_rfl
theorem tab_1 : List.take 7 (List.drop 7 tabL) = [.str [98, 101, 103, 105, 110], .bool true, .bool false, .bool false, .bool false, .int .i64 0, .int .i64 0] := by kernel_rfl
theorem tab_2 : List.take 7 (List.drop 14 tabL) = [.str [101, 110, 100], .bool false, .bool false, .bool false, .bool false, .int .i64 0, .int .i64 0] := by kernel_rfl
theorem tab_3 : List.take 7 (List.drop 21 tabL) = [.str [109, 97, 114, 107], .bool true, .bool false, .bool false, .bool false, .int .i64 0, .int .i64 0] := by kernel_rfl
theorem tab_4 : List.take 7 (List.drop 28 tabL) = [.str [99, 111, 117, 110, 116], .bool true, .bool true, .bool false, .bool false, .int .i64 (-1000000000000000), .int .i64 1000000000000000] := by kernel_rfl
theorem tab_5 : List.take 7 (List.drop 35 tabL) = [.str [115, 97, 109, 112, 108, 101], .bool false, .bool true, .bool false, .bool true, .int .i64 1, .int .i64 1000000000000] := by kernel_rfl
theorem tab_6 : List.take 7 (List.drop 42 tabL) = [.str [115, 101, 110, 100], .bool false, .bool true, .bool false, .bool false, .int .i64 0, .int .i64 1000000000000000] := by kernel_rfl
theorem tab_7 : List.take 7 (List.drop 49 tabL) = [.str [114, 101, 99, 118], .bool false, .bool true, .bool false, .bool false, .int .i64 0, .int .i64 1000000000000000] := by kernel_rfl
theorem tab_8 : List.take 7 (List.drop 56 tabL) = [.str [114, 117, 110], .bool false, .bool true, .bool false, .bool false, .int .i64 0, .int .i64 63] := by kernel_rfl
theorem tab_9 : List.take 7 (List.drop 63 tabL) = [.str [115, 116, 111, 112], .bool false, .bool true, .bool true, .bool false, .int .i64 0, .int .i64 3] := by kernel_rfl
theorem tab_10 : List.take 7 (List.drop 70 tabL) = [.str [119, 97, 107, 101], .bool false, .bool true, .bool false, .bool false, .int .i64 0, .int .i64 1000000000000000] := by kernel_rfl
theorem tab_11 : List.take 7 (List.drop 77 tabL) = [.str [97, 108, 108, 111, 99], .bool false, .bool true, .bool true, .bool true, .int .i64 0, .int .i64 1000000000000000] := by kernel_rfl
theorem tab_12 : List.take 7 (List.drop 84 tabL) = [.str [102, 114, 101, 101], .bool false, .bool true, .bool false, .bool false, .int .i64 0, .int .i64 1000000000000000] := by kernel_rfl
def S36 (x : Bool) (W : List (List UInt8)) (a : Int) (w : List UInt8) (k : Nat) : St :=
  ⟨[.top, .top, .ptr 1 1 0 0, .top, .top, .ptr 3 1 0 0, .fn 50 [.ptr 3 1 0 0], .ptr 4 1 0 0, .str w] ++ List.replicate 12 .top ++ [.agg tabL, .int .i64 k] ++ List.replicate 49 .top,
   [some ⟨1, 1, true, [[.sl x 1 (tR W)]]⟩, some ⟨1, 6, true, [[.int .i64 0, .int .i64 0, .str [], .int .i64 0, .int .i64 0, .nilS]]⟩, some ⟨1, 1, true, [[.int .i64 2]]⟩, some ⟨1, 1, false, [[.fn 49 [.ptr 2 1 0 0, .ptr 0 1 0 0]]]⟩,
    some ⟨1, 6, true, [[.int .i64 a, .int .i64 (kSo w k), .str [], .int .i64 0, .int .i64 0, .nilS]]⟩]⟩
theorem step36 (x : Bool) (W : List (List UInt8)) (a : Int) (w : List UInt8) (k : Nat) (hk : k < 13) :
    ∃ s', evCode (evC Dg) 14 c36b0 (S36 x W a w k) = some (.normal s') ∧ norm [2, 5, 6, 7, 8, 21, 22] 5 s' = S36 x W a w (k + 1) := by
  have hc : k = 0 ∨ k = 1 ∨ k = 2 ∨ k = 3 ∨ k = 4 ∨ k = 5 ∨ k = 6 ∨ k = 7 ∨ k = 8 ∨ k = 9 ∨ k = 10 ∨ k = 11 ∨ k = 12 := by omega
  rcases hc with rfl | rfl | rfl | rfl | rfl | rfl | rfl | rfl | rfl | rfl | rfl | rfl | rfl
  · unfold c36b0
    simp (maxSteps := 100000000) [S36, tabL_len, tabL_lt4, tabL_lt5, tabL_lt6, tab_0, kSo, show IntKind.i64.wrap 1 = 1 from rfl]
  · by_cases hw : [98, 101, 103, 105, 110] = w
    · subst hw
      unfold c36b0
      simp (maxSteps := 100000000) [S36, tabL_len, tabL_lt4, tabL_lt5, tabL_lt6, tab_1, kSo, kW, show IntKind.i64.wrap 2 = 2 from rfl]
    · unfold c36b0
      simp (maxSteps := 100000000) [S36, tabL_len, tabL_lt4, tabL_lt5, tabL_lt6, tab_1, kSo, kW, hw, show IntKind.i64.wrap 2 = 2 from rfl]
  · by_cases hw : [101, 110, 100] = w
    · subst hw
      unfold c36b0
      simp (maxSteps := 100000000) [S36, tabL_len, tabL_lt4, tabL_lt5, tabL_lt6, tab_2, kSo, kW, show IntKind.i64.wrap 3 = 3 from rfl]
    · unfold c36b0
      simp (maxSteps := 100000000) [S36, tabL_len, tabL_lt4, tabL_lt5, tabL_lt6, tab_2, kSo, kW, hw, show IntKind.i64.wrap 3 = 3 from rfl]
  · by_cases hw : [109, 97, 114, 107] = w
    · subst hw
      unfold c36b0
      simp (maxSteps := 100000000) [S36, tabL_len, tabL_lt4, tabL_lt5, tabL_lt6, tab_3, kSo, kW, show IntKind.i64.wrap 4 = 4 from rfl]
    · unfold c36b0
      simp (maxSteps := 100000000) [S36, tabL_len, tabL_lt4, tabL_lt5, tabL_lt6, tab_3, kSo, kW, hw, show IntKind.i64.wrap 4 = 4 from rfl]
  · by_cases hw : [99, 111, 117, 110, 116] = w
    · subst hw
      unfold c36b0
      simp (maxSteps := 100000000) [S36, tabL_len, tabL_lt4, tabL_lt5, tabL_lt6, tab_4, kSo, kW, show IntKind.i64.wrap 5 = 5 from rfl]
    · unfold c36b0
      simp (maxSteps := 100000000) [S36, tabL_len, tabL_lt4, tabL_lt5, tabL_lt6, tab_4, kSo, kW, hw, show IntKind.i64.wrap 5 = 5 from rfl]
  · by_cases hw : [115, 97, 109, 112, 108, 101] = w
    · subst hw
      unfold c36b0
      simp (maxSteps := 100000000) [S36, tabL_len, tabL_lt4, tabL_lt5, tabL_lt6, tab_5, kSo, kW, show IntKind.i64.wrap 6 = 6 from rfl]
    · unfold c36b0
      simp (maxSteps := 100000000) [S36, tabL_len, tabL_lt4, tabL_lt5, tabL_lt6, tab_5, kSo, kW, hw, show IntKind.i64.wrap 6 = 6 from rfl]
  · by_cases hw : [115, 101, 110, 100] = w
    · subst hw
      unfold c36b0
      simp (maxSteps := 100000000) [S36, tabL_len, tabL_lt4, tabL_lt5, tabL_lt6, tab_6, kSo, kW, show IntKind.i64.wrap 7 = 7 from rfl]
    · unfold c36b0
      simp (maxSteps := 100000000) [S36, tabL_len, tabL_lt4, tabL_lt5, tabL_lt6, tab_6, kSo, kW, hw, show IntKind.i64.wrap 7 = 7 from rfl]
  · by_cases hw : [114, 101, 99, 118] = w
    · subst hw
      unfold c36b0
      simp (maxSteps := 100000000) [S36, tabL_len, tabL_lt4, tabL_lt5, tabL_lt6, tab_7, kSo, kW, show IntKind.i64.wrap 8 = 8 from rfl]
    · unfold c36b0
      simp (maxSteps := 100000000) [S36, tabL_len, tabL_lt4, tabL_lt5, tabL_lt6, tab_7, kSo, kW, hw, show IntKind.i64.wrap 8 = 8 from rfl]
  · by_cases hw : [114, 117, 110] = w
    · subst hw
      unfold c36b0
      simp (maxSteps := 100000000) [S36, tabL_len, tabL_lt4, tabL_lt5, tabL_lt6, tab_8, kSo, kW, show IntKind.i64.wrap 9 = 9 from rfl]
    · unfold c36b0
      simp (maxSteps := 100000000) [S36, tabL_len, tabL_lt4, tabL_lt5, tabL_lt6, tab_8, kSo, kW, hw, show IntKind.i64.wrap 9 = 9 from rfl]
  · by_cases hw : [115, 116, 111, 112] = w
    · subst hw
      unfold c36b0
      simp (maxSteps := 100000000) [S36, tabL_len, tabL_lt4, tabL_lt5, tabL_lt6, tab_9, kSo, kW, show IntKind.i64.wrap 10 = 10 from rfl]
    · unfold c36b0
      simp (maxSteps := 100000000) [S36, tabL_len, tabL_lt4, tabL_lt5, tabL_lt6, tab_9, kSo, kW, hw, show IntKind.i64.wrap 10 = 10 from rfl]
  · by_cases hw : [119, 97, 107, 101] = w
    · subst hw
      unfold c36b0
      simp (maxSteps := 100000000) [S36, tabL_len, tabL_lt4, tabL_lt5, tabL_lt6, tab_10, kSo, kW, show IntKind.i64.wrap 11 = 11 from rfl]
    · unfold c36b0
      simp (maxSteps := 100000000) [S36, tabL_len, tabL_lt4, tabL_lt5, tabL_lt6, tab_10, kSo, kW, hw, show IntKind.i64.wrap 11 = 11 from rfl]
  · by_cases hw : [97, 108, 108, 111, 99] = w
    · subst hw
      unfold c36b0
      simp (maxSteps := 100000000) [S36, tabL_len, tabL_lt4, tabL_lt5, tabL_lt6, tab_11, kSo, kW, show IntKind.i64.wrap 12 = 12 from rfl]
    · unfold c36b0
      simp (maxSteps := 100000000) [S36, tabL_len, tabL_lt4, tabL_lt5, tabL_lt6, tab_11, kSo, kW, hw, show IntKind.i64.wrap 12 = 12 from rfl]
  · by_cases hw : [102, 114, 101, 101] = w
    · subst hw
      unfold c36b0
      simp (maxSteps := 100000000) [S36, tabL_len, tabL_lt4, tabL_lt5, tabL_lt6, tab_12, kSo, kW, show IntKind.i64.wrap 13 = 13 from rfl]
    · unfold c36b0
      simp (maxSteps := 100000000) [S36, tabL_len, tabL_lt4, tabL_lt5, tabL_lt6, tab_12, kSo, kW, hw, show IntKind.i64.wrap 13 = 13 from rfl]
end Go.Proofs.YtidkdiooempkpaaDoor
