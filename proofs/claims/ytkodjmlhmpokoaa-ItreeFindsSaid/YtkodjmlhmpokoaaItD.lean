/- itree: the reference's Of. -/
import Derived.Test.YtkodjmlhmpokoaaItC
namespace Go.Proofs.Ytkodjmlhmpokoaa
open Go Go.RowKit
set_option linter.unusedVariables false
set_option linter.unusedSimpArgs false
set_option maxHeartbeats 4000000

def G10 (n : Nat) (o : List Nat) (m : List Int) : Blks := [some ⟨1, 2, true, [[.nilS, .nilS]]⟩, some ⟨n, 1, true, nR o⟩, some ⟨n, 1, true, iR m⟩, some ⟨1, 2, false, [[.own 1 n 0 n, .own 2 n 0 n]]⟩]
theorem fam10 (n : Nat) (o : List Nat) : Fam 1 2 n o 4 (G10 n o) where
  len m := rfl
  g1 m := rfl
  g2 m := rfl
  st m m' := rfl
  lt m k hk := by
    have q1 : Nat.blt 1 k = true := blt_of (by omega)
    have q2 : Nat.blt 2 k = true := blt_of (by omega)
    simp [blksLt, G10, PV.lt.ltL, PV.lt, q1, q2]
  l1 := by omega
  l2 := by omega
def mostN (l : List Sp) : List Int := grt (endN l (ordN l l.length)) l.length 0 l.length (List.replicate l.length 0)
set_option maxRecDepth 100000 in
theorem f10 (x : Bool) (l : List Sp) (hl : l.length ≤ 1000000) : evE Dg 10 [eS x l] = some (.agg [.fr 1 (nR (ordN l l.length)), .fr 1 (iR (mostN l))]) := by
  have e1 := spRows_len l
  obtain ⟨ho, hm⟩ := ordN_ok l l.length
  have h28 := f28 x l hl
  have eL := nR_len (ordN l l.length)
  have h29 := f29 x l (ordN l l.length) 1 2 l.length hl ho hl hm l.length 0 l.length (by omega) (by omega) (by omega) 4 _ (List.replicate l.length 0) (fam10 l.length (ordN l l.length)) (by simp)
  change _ = some (PV.tup [], G10 _ _ (mostN l)) at h29
  have eM : (iR (mostN l)).length = l.length := by rw [iR_len]; unfold mostN; rw [grt_len]; simp
  generalize mostN l = M at *
  generalize ordN l l.length = o at *
  have hz : List.replicate l.length [PV.int .i64 0] = iR (List.replicate l.length 0) := by simp [iR]
  have b1 : l.length * 8 ≤ 140737488355328 := by omega
  have b2 : l.length ≤ 140737488355328 := by omega
  have b1' : (l.length : Int) * 8 ≤ 140737488355328 := by omega
  have b2' : (l.length : Int) ≤ 140737488355328 := by omega
  have im : ∀ rows, impB (PV.fr 1 rows) = [⟨rows.length, 1, true, rows⟩] := fun _ => rfl
  have iv : ∀ k rows, impV k (PV.fr 1 rows) = .own k rows.length 0 rows.length := fun _ _ => rfl
  have hb0 : ∀ b, Nat.blt b 0 = false := fun b => by cases b <;> rfl
  have hp : (0 : Int) ≤ (l.length : Int) := by omega
  have fR := nR_flat o
  have vf : ∀ (d : List Int), (iR d).all (PV.lt.ltL 0) = true := fun d => by
    rw [List.all_eq_true]
    intro y hy
    simp only [iR, List.mem_map] at hy
    obtain ⟨z, _, rfl⟩ := hy
    rfl
  rw [show ((0 : Nat) : Int) = 0 from rfl] at h29
  simp only [eS, G10] at h28 h29
  refine evE_intro 1 D10 rfl ?_
  unfold c10
  simp [evCode, evOps, evOne, evOp, evPur, evEff, evPur.chunks, fillP, AOp.isEff, AO.ev, putP, PV.cells, PV.leaf, getB, getM, mapE, iterE, keyC, mapRows, mfind, eq1, eqL, scal, binP, unP, minP, maxP, foldP, PV.lt, PV.lt.ltL, endP, expoAll, expoG, expo, expo.expoL, frIds, frIds.frIdsL, nodupN, kill, cls, clsFuel, resO, RV.get, loadP, evC_p, evC_s, endS, endT, rowsOf, callP, thinL, unfr, unfr.unfrL, PV.noMem, PV.noMem.noMemL, optI, mapO, norm, trimT, trimB, forget, hasN, blksLt, List.set, softChk, softGo, softRd, effTg, rdP, eS, e1, eL, eM, ho, h28, h29, hz, b1, b2, b1', b2', im, iv, hb0, hp, fR, vf]
  rfl
end Go.Proofs.Ytkodjmlhmpokoaa
