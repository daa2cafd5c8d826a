/- column: PutText, a value's bytes. -/
import Derived.Test.YtimipbbcmiblkaaCoC
namespace Go.Proofs.Ytimipbbcmiblkaa
open Go Go.RowKit
set_option linter.unusedVariables false
set_option linter.unusedSimpArgs false
set_option maxHeartbeats 4000000

def sB (s : List UInt8) : List Nat := s.map (·.toNat)
theorem rowsB (s : List UInt8) : rowsOfBytes s = bR (sB s) := by simp [rowsOfBytes, bR, sB]
theorem sB_len (s : List UInt8) : (sB s).length = s.length := by simp [sB]
def putT (s : List UInt8) : List Nat := putI s.length ++ sB s
theorem putI_len {n : Int} (h1 : -9223372036854775808 ≤ n) (h2 : n ≤ 9223372036854775807) : 0 < (putI n).length ∧ (putI n).length ≤ 10 := by
  obtain ⟨m, m1, _, _, m4⟩ := putI_gps h1 h2
  rw [m4]
  simp [gps_len]
  omega
set_option maxRecDepth 100000 in
theorem f53 (s : List UInt8) (hs : s.length ≤ 100000) : evE Dg 53 [.nilS, .str s] = some (.fr 1 (bR (putT s))) := by
  have h45 := f45 (s.length : Int) (by omega) (by omega)
  obtain ⟨p0, p1⟩ := putI_len (n := (s.length : Int)) (by omega) (by omega)
  have hB := rowsB s
  have lB := sB_len s
  unfold putT
  generalize putI (s.length : Int) = P at *
  generalize sB s = T at *
  rw [bR_app]
  have lP := bR_len P
  have lT := bR_len T
  have aP := bR_lt P
  have aT := bR_lt T
  have im : ∀ rows, impB (PV.fr 1 rows) = [⟨rows.length, 1, true, rows⟩] := fun _ => rfl
  have iv : ∀ k rows, impV k (PV.fr 1 rows) = .own k rows.length 0 rows.length := fun _ _ => rfl
  have hb0 : ∀ b, Nat.blt b 0 = false := fun b => by cases b <;> rfl
  have w1 : IntKind.i64.wrap ((P.length : Int) + s.length) = (P.length : Int) + s.length := wrap_i64 _ (by omega) (by omega)
  have c1 : (0 : Int) ≤ (P.length : Int) + s.length := by omega
  have c2 : (P.length : Int) + s.length ≤ 140737488355328 := by omega
  have c3 : ((P.length : Int) + s.length).toNat = P.length + s.length := by omega
  have c4 : P.length ≤ P.length + s.length := by omega
  have c5 : (P.length : Int) ≤ (P.length : Int) + s.length := by omega
  have m1 : Nat.min P.length (P.length + s.length) = P.length := Nat.min_eq_left (by omega)
  have m2 : Nat.min s.length s.length = s.length := Nat.min_self _
  have e1 : P.length + s.length - P.length = s.length := by omega
  have t1 : (bR P).take P.length = bR P := List.take_of_length_le (by rw [lP]; exact Nat.le_refl _)
  have t2 : (bR T).take s.length = bR T := List.take_of_length_le (by rw [lT, lB]; exact Nat.le_refl _)
  rw [lB] at lT
  refine evE_intro 3 D53 rfl ?_
  unfold c53
  simp [evCode, evOps, evOne, evOp, evPur, evEff, evPur.chunks, fillP, AOp.isEff, AO.ev, putP, PV.cells, PV.leaf, getB, getM, mapE, iterE, keyC, mapRows, mfind, eq1, eqL, scal, binP, unP, minP, maxP, foldP, PV.lt, PV.lt.ltL, endP, expoAll, expoG, expo, expo.expoL, frIds, frIds.frIdsL, nodupN, kill, cls, clsFuel, resO, RV.get, loadP, evC_p, evC_s, endS, endT, rowsOf, callP, thinL, unfr, unfr.unfrL, PV.noMem, PV.noMem.noMemL, optI, mapO, norm, trimT, trimB, forget, hasN, blksLt, List.set, softChk, softGo, softRd, effTg, rdP, h45, im, iv, hb0, lP, lT, hB, w1, c1, c2, c3, c4, c5, m1, m2, e1, t1, t2, aP, aT]
end Go.Proofs.Ytimipbbcmiblkaa
