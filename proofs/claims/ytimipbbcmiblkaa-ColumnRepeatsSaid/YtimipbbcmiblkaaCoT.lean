/- column: the reader's integer and value. -/
import Derived.Test.YtimipbbcmiblkaaCoS
namespace Go.Proofs.Ytimipbbcmiblkaa
open Go Go.RowKit
set_option linter.unusedVariables false
set_option linter.unusedSimpArgs false
set_option maxHeartbeats 4000000

set_option maxRecDepth 100000 in
theorem f50 (e N : Nat) (G : List Nat → Bool → Blks) (hG : Rd e N G) (L : List Nat) (f : Bool) (hl : L.length ≤ 1000000) (ok : okB L) :
    evS Dg 50 [.ptr e 1 0 0] (G L f) = some (.int .i64 (dec L).1, G (L.drop (dec L).2.1) (f || decide ((dec L).2.2 ≠ 0))) := by
  have h57 := f57 false L hl ok
  have h56 := f56 e N G hG L f (dec L).2.1 (dec L).2.2 (dec_size L)
  have gl := hG.len
  have g1 := hG.get
  have g2 := fun L f => got_of (hG.get L f)
  have gb := hG.lt
  have he := hG.he
  have tk : ∀ L f, (G L f).take N = G L f := fun L f => List.take_of_length_le (by rw [gl]; exact Nat.le_refl _)
  have hb0 : ∀ b, Nat.blt b 0 = false := fun b => by cases b <;> rfl
  generalize (f || decide ((dec L).2.2 ≠ 0)) = f' at *
  generalize dec L = r at *
  obtain ⟨n, s, err⟩ := r
  simp only [tr3, eB] at h57 h56 ⊢
  generalize L.drop s = L' at *
  have iv : ∀ k, impV k (PV.tup [.int .i64 n, .int .i64 (s : Int), .int .i64 err]) = PV.tup [.int .i64 n, .int .i64 (s : Int), .int .i64 err] := fun _ => rfl
  have im' : impB (PV.tup [.int .i64 n, .int .i64 (s : Int), .int .i64 err]) = [] := rfl
  refine evS_intro 1 D50 rfl ?_
  unfold c50
  simp [evCode, evOps, evOne, evOp, evPur, evEff, evPur.chunks, fillP, AOp.isEff, AO.ev, putP, PV.cells, PV.leaf, getB, getM, mapE, iterE, keyC, mapRows, mfind, eq1, eqL, scal, binP, unP, minP, maxP, foldP, PV.lt, PV.lt.ltL, endP, expoAll, expoG, expo, expo.expoL, frIds, frIds.frIdsL, nodupN, kill, cls, clsFuel, resO, RV.get, loadP, evC_p, evC_s, endS, endT, rowsOf, callP, thinL, unfr, unfr.unfrL, PV.noMem, PV.noMem.noMemL, optI, mapO, norm, trimT, trimB, forget, hasN, blksLt, List.set, softChk, softGo, softRd, effTg, rdP, gl, g1, g2, gb, he, tk, hb0, h57, h56, im', iv]
/-- a value at the beginning of bytes: the value, what is left, whether it failed -/
def valD (L : List Nat) : Val × List Nat × Bool := match L with
  | [] => ((0, 0, []), [], true)
  | z :: r => if z = 1 ∨ z = 2 then (((z : Int), (dec r).1, []), r.drop (dec r).2.1, decide ((dec r).2.2 ≠ 0))
    else if z = 3 then ((3, 0, (decT 200 r).1), r.drop (decT 200 r).2.1, decide ((decT 200 r).2.2 ≠ 0))
    else (((z : Int), 0, []), r, false)
theorem blksLt_app (k : Nat) : ∀ {a b : Blks}, blksLt k a = true → blksLt k b = true → blksLt k (a ++ b) = true
  | [], b, _, h => h
  | none :: a, b, h1, h => by
    simp only [blksLt, List.cons_append] at h1 ⊢
    exact blksLt_app k h1 h
  | some x :: a, b, h1, h => by
    simp only [blksLt, List.cons_append, Bool.and_eq_true] at h1 ⊢
    exact ⟨h1.1, blksLt_app k h1.2 h⟩
/-- flat blocks behind -/
def flatB (y : Blks) : Prop := ∀ k, blksLt k y = true
structure Rd2 (e N : Nat) (G : List Nat → Bool → Blks) : Prop extends Rd e N G where
  fl : ∀ L f k, N ≤ k → blksLt k (G L f) = true
theorem Rd2.app {e N : Nat} {G : List Nat → Bool → Blks} (h : Rd2 e N G) (y : Blks) (hy : flatB y) : Rd2 e (N + y.length) (fun L f => G L f ++ y) where
  len L f := by rw [List.length_append, h.len]
  get L f := by rw [List.getElem?_append_left (by rw [h.len]; exact h.he)]; exact h.get L f
  set L f L' f' := by rw [List.set_append_left _ _ (by rw [h.len]; exact h.he), h.set]
  lt L f := blksLt_app _ (h.fl L f _ (by omega)) (hy _)
  he := by have := h.he; omega
  fl L f k hk := blksLt_app _ (h.fl L f k (by omega)) (hy k)
def vbx (v : Val) : Option Blk := some ⟨1, 3, true, [[.int .i64 v.1, .int .i64 v.2.1, .str v.2.2]]⟩
theorem flat2 (v w : Val) : flatB [vbx v, vbx w] := fun k => by simp [vbx, blksLt]
set_option maxRecDepth 100000 in
theorem f49_nil (e N : Nat) (G : List Nat → Bool → Blks) (hG : Rd2 e N G) (f : Bool) :
    evS Dg 49 [.ptr e 1 0 0] (G [] f) = some (vP (0, 0, []), G [] true) := by
  have gl := hG.len
  have g1 := hG.get [] f
  have g2 := got_of g1
  have gs := hG.set [] f [] true
  have gb := hG.lt
  have he := hG.he
  have tk : ∀ L f, (G L f).take N = G L f := fun L f => List.take_of_length_le (by rw [gl]; exact Nat.le_refl _)
  have hb0 : ∀ b, Nat.blt b 0 = false := fun b => by cases b <;> rfl
  have hn : bR [] = [] := rfl
  rw [hn] at g1 g2 gs
  have he2 : ∀ k, e < N + k := fun k => by omega
  refine evS_intro 1 D49 rfl ?_
  unfold c49
  simp [evCode, evOps, evOne, evOp, evPur, evEff, evPur.chunks, fillP, AOp.isEff, AO.ev, putP, PV.cells, PV.leaf, getB, getM, mapE, iterE, keyC, mapRows, mfind, eq1, eqL, scal, binP, unP, minP, maxP, foldP, PV.lt, PV.lt.ltL, endP, expoAll, expoG, expo, expo.expoL, frIds, frIds.frIdsL, nodupN, kill, cls, clsFuel, resO, RV.get, loadP, evC_p, evC_s, endS, endT, rowsOf, callP, thinL, unfr, unfr.unfrL, PV.noMem, PV.noMem.noMemL, optI, mapO, norm, trimT, trimB, forget, hasN, blksLt, List.set, softChk, softGo, softRd, effTg, rdP, gl, g1, g2, gs, gb, he, he2, tk, hb0, vP]
set_option maxRecDepth 100000 in
theorem f49_int (e N : Nat) (G : List Nat → Bool → Blks) (hG : Rd2 e N G) (z : Nat) (r : List Nat) (f : Bool) (hl : r.length ≤ 1000000) (ok : okB r) (hz : z = 1 ∨ z = 2) :
    evS Dg 49 [.ptr e 1 0 0] (G (z :: r) f) = some (vP ((z : Int), (dec r).1, []), G (r.drop (dec r).2.1) (f || decide ((dec r).2.2 ≠ 0))) := by
  have h50 := f50 e (N + 2) _ (hG.app [vbx (0, 0, []), vbx ((z : Int), 0, [])] (flat2 _ _)).toRd r f hl ok
  have gl := hG.len
  have g1 := hG.get (z :: r) f
  have g2 := got_of g1
  have gs := hG.set (z :: r) f r f
  have gb := hG.lt
  have he := hG.he
  have tk : ∀ L f, (G L f).take N = G L f := fun L f => List.take_of_length_le (by rw [gl]; exact Nat.le_refl _)
  have hb0 : ∀ b, Nat.blt b 0 = false := fun b => by cases b <;> rfl
  have hc : bR (z :: r) = [PV.int .u8 (z : Int)] :: bR r := rfl
  have er := bR_len r
  have nz : ¬ ((r.length : Int) + 1 = 0) := by omega
  have ny : (1 : Int) ≤ (r.length : Int) + 1 := by omega
  rw [hc] at g1 g2
  have tr : (bR r).take r.length = bR r := List.take_of_length_le (by rw [er]; exact Nat.le_refl _)
  generalize (f || decide ((dec r).2.2 ≠ 0)) = f' at *
  generalize dec r = d at *
  obtain ⟨n, s, err⟩ := d
  simp only at h50 ⊢
  generalize r.drop s = L' at *
  have he2 : ∀ k, e < N + k := fun k => by omega
  have u1 : IntKind.i64.wrap 1 = 1 := rfl
  have u2 : IntKind.i64.wrap 2 = 2 := rfl
  simp only [vbx] at h50
  refine evS_intro 1 D49 rfl ?_
  unfold c49
  rcases hz with rfl | rfl
  · have k1 : (((1 : Nat) : Int)) = 1 := rfl
    rw [k1] at h50 g1 g2 ⊢
    simp [evCode, evOps, evOne, evOp, evPur, evEff, evPur.chunks, fillP, AOp.isEff, AO.ev, putP, PV.cells, PV.leaf, getB, getM, mapE, iterE, keyC, mapRows, mfind, eq1, eqL, scal, binP, unP, minP, maxP, foldP, PV.lt, PV.lt.ltL, endP, expoAll, expoG, expo, expo.expoL, frIds, frIds.frIdsL, nodupN, kill, cls, clsFuel, resO, RV.get, loadP, evC_p, evC_s, endS, endT, rowsOf, callP, thinL, unfr, unfr.unfrL, PV.noMem, PV.noMem.noMemL, optI, mapO, norm, trimT, trimB, forget, hasN, blksLt, List.set, softChk, softGo, softRd, effTg, rdP, gl, g1, g2, gs, gb, he, he2, tk, hb0, er, nz, ny, tr, u1, h50, vP]
  · have k1 : (((2 : Nat) : Int)) = 2 := rfl
    rw [k1] at h50 g1 g2 ⊢
    simp [evCode, evOps, evOne, evOp, evPur, evEff, evPur.chunks, fillP, AOp.isEff, AO.ev, putP, PV.cells, PV.leaf, getB, getM, mapE, iterE, keyC, mapRows, mfind, eq1, eqL, scal, binP, unP, minP, maxP, foldP, PV.lt, PV.lt.ltL, endP, expoAll, expoG, expo, expo.expoL, frIds, frIds.frIdsL, nodupN, kill, cls, clsFuel, resO, RV.get, loadP, evC_p, evC_s, endS, endT, rowsOf, callP, thinL, unfr, unfr.unfrL, PV.noMem, PV.noMem.noMemL, optI, mapO, norm, trimT, trimB, forget, hasN, blksLt, List.set, softChk, softGo, softRd, effTg, rdP, gl, g1, g2, gs, gb, he, he2, tk, hb0, er, nz, ny, tr, u2, h50, vP]
end Go.Proofs.Ytimipbbcmiblkaa
