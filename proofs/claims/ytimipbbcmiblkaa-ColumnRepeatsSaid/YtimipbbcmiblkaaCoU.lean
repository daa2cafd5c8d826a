/- column: the reader's value, whole. -/
import Derived.Test.YtimipbbcmiblkaaCoT
namespace Go.Proofs.Ytimipbbcmiblkaa
open Go Go.RowKit
set_option linter.unusedVariables false
set_option linter.unusedSimpArgs false
set_option maxHeartbeats 4000000

set_option maxRecDepth 100000 in
theorem f49_text (e N : Nat) (G : List Nat → Bool → Blks) (hG : Rd2 e N G) (r : List Nat) (f : Bool) (hl : r.length ≤ 1000000) (ok : okB r) :
    evS Dg 49 [.ptr e 1 0 0] (G (3 :: r) f) = some (vP (3, 0, (decT 200 r).1), G (r.drop (decT 200 r).2.1) (f || decide ((decT 200 r).2.2 ≠ 0))) := by
  have h55 := f55 false r 200 (by omega) hl ok
  have h56 := f56 e (N + 2) _ (hG.app [vbx (0, 0, []), vbx (3, 0, [])] (flat2 _ _)).toRd r f (decT 200 r).2.1 (decT 200 r).2.2 (decT_size 200 r)
  have gl := hG.len
  have g1 := hG.get (3 :: r) f
  have g2 := got_of g1
  have g1r := hG.get r f
  have g2r := got_of g1r
  have gs := hG.set (3 :: r) f r f
  have gb := hG.lt
  have he := hG.he
  have tk : ∀ L f, (G L f).take N = G L f := fun L f => List.take_of_length_le (by rw [gl]; exact Nat.le_refl _)
  have hb0 : ∀ b, Nat.blt b 0 = false := fun b => by cases b <;> rfl
  have hc : bR (3 :: r) = [PV.int .u8 3] :: bR r := rfl
  have er := bR_len r
  have nz : ¬ ((r.length : Int) + 1 = 0) := by omega
  have ny : (1 : Int) ≤ (r.length : Int) + 1 := by omega
  rw [hc] at g1 g2
  have tr : (bR r).take r.length = bR r := List.take_of_length_le (by rw [er]; exact Nat.le_refl _)
  generalize (f || decide ((decT 200 r).2.2 ≠ 0)) = f' at *
  generalize decT 200 r = d at *
  obtain ⟨t, s, err⟩ := d
  simp only [trT, eB] at h55 h56 ⊢
  generalize r.drop s = L' at *
  have he2 : ∀ k, e < N + k := fun k => by omega
  have u3 : IntKind.i64.wrap 3 = 3 := rfl
  have iv : ∀ k, impV k (PV.tup [.str t, .int .i64 (s : Int), .int .i64 err]) = PV.tup [.str t, .int .i64 (s : Int), .int .i64 err] := fun _ => rfl
  have im' : impB (PV.tup [.str t, .int .i64 (s : Int), .int .i64 err]) = [] := rfl
  simp only [vbx] at h56
  refine evS_intro 1 D49 rfl ?_
  unfold c49
  simp [evCode, evOps, evOne, evOp, evPur, evEff, evPur.chunks, fillP, AOp.isEff, AO.ev, putP, PV.cells, PV.leaf, getB, getM, mapE, iterE, keyC, mapRows, mfind, eq1, eqL, scal, binP, unP, minP, maxP, foldP, PV.lt, PV.lt.ltL, endP, expoAll, expoG, expo, expo.expoL, frIds, frIds.frIdsL, nodupN, kill, cls, clsFuel, resO, RV.get, loadP, evC_p, evC_s, endS, endT, rowsOf, callP, thinL, unfr, unfr.unfrL, PV.noMem, PV.noMem.noMemL, optI, mapO, norm, trimT, trimB, forget, hasN, blksLt, List.set, softChk, softGo, softRd, effTg, rdP, gl, g1, g2, g1r, g2r, gs, gb, he, he2, tk, hb0, er, nz, ny, tr, u3, h55, h56, iv, im', vP]
set_option maxRecDepth 100000 in
theorem f49_else (e N : Nat) (G : List Nat → Bool → Blks) (hG : Rd2 e N G) (z : Nat) (r : List Nat) (f : Bool) (hz : z ≤ 255) (h1 : ¬ (z = 1 ∨ z = 2)) (h3 : ¬ z = 3) :
    evS Dg 49 [.ptr e 1 0 0] (G (z :: r) f) = some (vP ((z : Int), 0, []), G r f) := by
  have gl := hG.len
  have g1 := hG.get (z :: r) f
  have g2 := got_of g1
  have gs := hG.set (z :: r) f r f
  have gb := hG.lt
  have he := hG.he
  have tk : ∀ L f, (G L f).take N = G L f := fun L f => List.take_of_length_le (by rw [gl]; exact Nat.le_refl _)
  have hb0 : ∀ b, Nat.blt b 0 = false := fun b => by cases b <;> rfl
  have hc : bR (z :: r) = [PV.int .u8 (z : Int)] :: bR r := rfl
  have er := bR_len r
  have nz : ¬ ((r.length : Int) + 1 = 0) := by omega
  have ny : (1 : Int) ≤ (r.length : Int) + 1 := by omega
  rw [hc] at g1 g2
  have tr : (bR r).take r.length = bR r := List.take_of_length_le (by rw [er]; exact Nat.le_refl _)
  have he2 : ∀ k, e < N + k := fun k => by omega
  have w : IntKind.i64.wrap (z : Int) = z := wrap_i64 _ (by omega) (by omega)
  have k1 : ¬ (z : Int) = 1 := by omega
  have k2 : ¬ (z : Int) = 2 := by omega
  have k3 : ¬ (z : Int) = 3 := by omega
  have j1 : ¬ z = 1 := by omega
  have j2 : ¬ z = 2 := by omega
  refine evS_intro 1 D49 rfl ?_
  unfold c49
  simp [evCode, evOps, evOne, evOp, evPur, evEff, evPur.chunks, fillP, AOp.isEff, AO.ev, putP, PV.cells, PV.leaf, getB, getM, mapE, iterE, keyC, mapRows, mfind, eq1, eqL, scal, binP, unP, minP, maxP, foldP, PV.lt, PV.lt.ltL, endP, expoAll, expoG, expo, expo.expoL, frIds, frIds.frIdsL, nodupN, kill, cls, clsFuel, resO, RV.get, loadP, evC_p, evC_s, endS, endT, rowsOf, callP, thinL, unfr, unfr.unfrL, PV.noMem, PV.noMem.noMemL, optI, mapO, norm, trimT, trimB, forget, hasN, blksLt, List.set, softChk, softGo, softRd, effTg, rdP, gl, g1, g2, gs, gb, he, he2, tk, hb0, er, nz, ny, tr, w, k1, k2, k3, j1, j2, h3, vP]
theorem f49 (e N : Nat) (G : List Nat → Bool → Blks) (hG : Rd2 e N G) (L : List Nat) (f : Bool) (hl : L.length ≤ 1000000) (ok : okB L) :
    evS Dg 49 [.ptr e 1 0 0] (G L f) = some (vP (valD L).1, G (valD L).2.1 (f || (valD L).2.2)) := by
  cases L with
  | nil =>
    rw [f49_nil e N G hG f]
    simp [valD]
  | cons z r =>
    have okr : okB r := fun y hy => ok y (by simp [hy])
    have hlr : r.length ≤ 1000000 := by simp at hl; omega
    unfold valD
    by_cases h1 : z = 1 ∨ z = 2
    · simp only [h1, if_true]
      exact f49_int e N G hG z r f hlr okr h1
    · by_cases h3 : z = 3
      · subst h3
        simp only [h1, if_false, if_true]
        exact f49_text e N G hG r f hlr okr
      · simp only [h1, h3, if_false]
        rw [f49_else e N G hG z r f (ok z (by simp)) h1 h3, Bool.or_false]
end Go.Proofs.Ytimipbbcmiblkaa
