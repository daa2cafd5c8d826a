/- event: Parse of numbers; the words one after another. -/
-- LATT
import Derived.Test.YtidkdiooempkpaaDoorEtP
namespace Go.Proofs.YtidkdiooempkpaaDoor
open Go Go.RowKit Go.Lib
attribute [local simp] evCode evOps evOne evOp evPur evEff evPur.chunks fillP AOp.isEff AO.ev putP PV.cells PV.leaf getB getM mapE iterE keyC mapRows mfind eq1 eqL scal binP unP minP maxP foldP PV.lt PV.lt.ltL endP expoAll expoG expo expo.expoL frIds frIds.frIdsL nodupN kill cls clsFuel resO RV.get loadP evC_p evC_s endS endT rowsOf callP thinL unfr unfr.unfrL PV.noMem PV.noMem.noMemL optI mapO norm trimT trimB forget hasN blksLt List.set softChk softGo softRd effTg tgOf chgN sameB PV.same PV.same.sameL PV.same.sameLL rdP
set_option linter.unusedVariables false
set_option linter.unusedSimpArgs false
set_option maxHeartbeats 4000000
set_option maxRecDepth 100000

def pB (l : List UInt8) : Bool := match atoiAll l with
  | .ok v => inB v && decide (itoa v = l)
  | _ => false
def pV (l : List UInt8) : Int := match atoiAll l with
  | .ok v => if inB v = true ∧ itoa v = l then v else 0
  | _ => 0
theorem pV_itoa {n : Int} (h : inB n = true) : pV (itoa n) = n ∧ pB (itoa n) = true := by
  have hn := (inB_iff n).1 h
  unfold pV pB
  rw [atoi_itoa n hn]
  simp [h]
theorem pV_no {l : List UInt8} (h : ∀ n, inB n = true → itoa n ≠ l) : pV l = 0 ∧ pB l = false := by
  unfold pV pB
  cases atoiAll l with
  | ok v =>
    simp only
    constructor
    · rw [if_neg (fun hh => h v hh.1 hh.2)]
    · cases hb : inB v with
      | false => rfl
      | true => simp [h v hb]
  | _ => exact ⟨rfl, rfl⟩
def lim : Nat := 1000
theorem f51 (l : List UInt8) (hl : l.length ≤ lim) : evE Dg 51 [.str l] = some (.tup [.int .i64 (pV l), .bool (pB l)]) := by
  by_cases h : ∃ n, inB n = true ∧ itoa n = l
  · obtain ⟨n, hb, rfl⟩ := h
    obtain ⟨e1, e2⟩ := pV_itoa hb
    rw [e1, e2]
    exact f24_yes n hb
  · have hn : ∀ n, inB n = true → itoa n ≠ l := fun n h1 h2 => h ⟨n, h1, h2⟩
    obtain ⟨e1, e2⟩ := pV_no hn
    rw [e1, e2]
    exact f24_no l hl hn
theorem f53 (l : List UInt8) : evE Dg 53 [.str l] = some (.tup [.int .i64 (pV l), .bool (pB l)]) := by
  by_cases h : ∃ n, inB n = true ∧ itoa n = l
  · obtain ⟨n, hb, rfl⟩ := h
    obtain ⟨e1, e2⟩ := pV_itoa hb
    rw [e1, e2]
    exact f25_yes n hb
  · have hn : ∀ n, inB n = true → itoa n ≠ l := fun n h1 h2 => h ⟨n, h1, h2⟩
    obtain ⟨e1, e2⟩ := pV_no hn
    rw [e1, e2]
    exact f25_no l hn
/-- a word -/
def wAt (W : List (List UInt8)) (n : Nat) : List UInt8 := (W[n]?).getD []
theorem wAt_le {W : List (List UInt8)} {B : Nat} (h : ∀ s ∈ W, s.length ≤ B) (n : Nat) : (wAt W n).length ≤ B := by
  unfold wAt
  cases hq : W[n]? with
  | none => simp
  | some s => exact h s (List.mem_of_getElem? hq)
def bW (x : Bool) (W : List (List UInt8)) : Option Blk := some ⟨1, 1, true, [[.sl x 1 (tR W)]]⟩
def bN (n : Nat) : Option Blk := some ⟨1, 1, true, [[.int .i64 n]]⟩
def bF : Option Blk := some ⟨1, 1, false, [[.fn 49 [.ptr 2 1 0 0, .ptr 0 1 0 0]]]⟩
theorem f49 (x : Bool) (W : List (List UInt8)) (b : Option Blk) (n : Nat) (r : Blks) (hn : n ≤ 1000000) (hW : W.length ≤ 1000000000) :
    evS Dg 49 [.ptr 2 1 0 0, .ptr 0 1 0 0] (bW x W :: b :: bN n :: r) = some (.str (wAt W n), bW x W :: b :: bN (n + 1) :: r) := by
  have tl := tR_len W
  have w1 : IntKind.i64.wrap ((n : Int) + 1) = ((n + 1 : Nat) : Int) := by rw [wrap_i64 _ (by omega) (by omega)]; omega
  have w2 : IntKind.i64.wrap (((n + 1 : Nat) : Int) - 1) = (n : Int) := by rw [wrap_i64 _ (by omega) (by omega)]; omega
  have w3 : IntKind.i64.wrap (n : Int) = (n : Int) := wrap_i64 _ (by omega) (by omega)
  unfold wAt
  by_cases h : n < W.length
  · have hg := List.getElem?_eq_getElem h
    have r1 := tR_get hg
    have g1 := tR_got hg
    have c1 : ¬ (W.length : Int) < ((n + 1 : Nat) : Int) := by omega
    have c2 : ¬ W.length < n + 1 := by omega
    have c3 : (n : Int) < W.length := by omega
    have c4 : ¬ (W.length : Int) < (n : Int) + 1 := by omega
    refine evS_intro 1 D49 rfl ?_
    unfold c49
    simp [bW, bN, tl, w1, w2, w3, c1, c2, c3, c4, h, r1, g1, hg]
  · have c1 : (W.length : Int) < ((n + 1 : Nat) : Int) := by omega
    have c2 : W.length < n + 1 := by omega
    have c4 : (W.length : Int) < (n : Int) + 1 := by omega
    have hg : W[n]? = none := List.getElem?_eq_none (by omega)
    refine evS_intro 1 D49 rfl ?_
    unfold c49
    simp [bW, bN, tl, w1, w2, w3, c1, c2, c4, h, hg]
theorem f50 (x : Bool) (W : List (List UInt8)) (b : Option Blk) (n : Nat) (r : Blks) (hn : n ≤ 1000000) (hW : W.length ≤ 1000000000) (hl : (wAt W n).length ≤ lim) :
    evS Dg 50 [.ptr 3 1 0 0] (bW x W :: b :: bN n :: bF :: r) = some (.int .i64 (pV (wAt W n)), bW x W :: b :: bN (n + 1) :: bF :: r) := by
  have h49 := f49 x W b n (bF :: r) hn hW
  have h51 := f51 (wAt W n) hl
  simp only [bF] at h49
  generalize wAt W n = w at *
  generalize bW x W = p at *
  generalize bN n = q at *
  generalize bN (n + 1) = q' at *
  refine evS_intro 1 D50 rfl ?_
  unfold c50
  simp [h49, h51, bF]
end Go.Proofs.YtidkdiooempkpaaDoor
