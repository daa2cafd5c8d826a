/- ring: the records of a buffer. -/
import Derived.Test.YthoncigfbhinlaaRgH
namespace Go.Proofs.Ythoncigfbhinlaa
open Go Go.RowKit
set_option linter.unusedVariables false
set_option linter.unusedSimpArgs false
set_option maxHeartbeats 8000000

def numsOk (n : Nat) (s e f m : Int) : Prop := 16 ≤ n ∧ n ≤ 65536 ∧ 0 ≤ s ∧ s ≤ e ∧ e ≤ 1000000000000000 ∧ e - s ≤ n ∧ 0 ≤ f ∧ f ≤ m ∧ m ≤ 1000000000000000
instance (n : Nat) (s e f m : Int) : Decidable (numsOk n s e f m) := by unfold numsOk; infer_instance
/-- the records that a buffer's bytes are -/
def recsF (D : List Nat) (s e : Int) : Option (List (List Nat)) := recF ((contF D s.toNat (e.toNat - s.toNat)).length + 1) (contF D s.toNat (e.toNat - s.toNat))
/-- the error of Check -/
def errF (p : Int) (D : List Nat) (s e f m : Int) : Int :=
  if okP p then (if numsOk D.length s e f m then (match recsF D s e with
    | some l => if (l.length : Int) = m - f then 0 else 10
    | none => 10) else 2) else 1
def rcR (l : List (List Nat)) : List (List PV) := l.map fun r => [PV.sl true 1 (bR r)]
theorem rcR_len (l : List (List Nat)) : (rcR l).length = l.length := by simp [rcR]
theorem rcR_app (a b : List (List Nat)) : rcR (a ++ b) = rcR a ++ rcR b := by simp [rcR]
theorem recF_len : ∀ (n : Nat) (b : List Nat) (l : List (List Nat)), recF n b = some l → l.length ≤ b.length
  | 0, b, l, h => by simp [recF] at h
  | n + 1, b, l, h => by
    simp only [recF] at h
    split at h
    · cases h; simp
    · split at h
      · rename_i r k hf
        split at h
        · rename_i q hq
          cases h
          have := recF_len n _ _ hq
          have := frameF_size hf
          simp only [List.length_cons, List.length_drop] at *
          omega
        · cases h
      · cases h
def S27 (cs : List PV) (u : List Nat × List (List Nat)) : St :=
  ⟨[.top, .ptr 0 1 0 0, .top, .top, .own 2 u.2.length 0 u.2.length, .sl false 1 (bR u.1)] ++ List.replicate 77 .top,
    [some ⟨1, 6, true, [cs]⟩, some ⟨0, 1, true, []⟩, some ⟨u.2.length, 1, true, rcR u.2⟩]⟩
set_option maxRecDepth 100000 in
theorem loop27 (cs : List PV) (hcs : PV.lt.ltL 0 cs = true) (b : List Nat) (hb : okB b) (hl : b.length ≤ 70000) (E : Option Out) (s0 : St) (hE : evLoop (evCode (evC Dg) 70010 c27b0) [1, 4, 5] 3 70010 s0 = E) (h0 : norm [1, 4, 5] 3 s0 = S27 cs (b, [])) :
    (∃ l, recF (b.length + 1) b = some l ∧ E = evCode (evC Dg) 70010 c27b0 (S27 cs ([], l))) ∨ (recF (b.length + 1) b = none ∧ ∃ st, E = some (.ret st) ∧ endP [.t 2, .t 3] (some (.ret st)) = some (.tup [.fr 1 [], .int .i64 10])) := by
  obtain ⟨R, hR⟩ := ex_eq (recF (b.length + 1) b)
  rw [hR]
  have H := loop_while (body := evCode (evC Dg) 70010 c27b0) (keep := [1, 4, 5]) (n0 := 3) (fuel := 70010) (S27 cs) (fun u => u.1.length) (fun u => okB u.1 ∧ u.1.length + u.2.length ≤ 70000 ∧ ∃ n, u.1.length + 1 ≤ n ∧ (match recF n u.1 with | some q => some (u.2 ++ q) | none => none) = R)
    (fun o => (∃ l, R = some l ∧ some o = evCode (evC Dg) 70010 c27b0 (S27 cs ([], l))) ∨ (R = none ∧ ∃ st, o = .ret st ∧ endP [.t 2, .t 3] (some (.ret st)) = some (.tup [.fr 1 [], .int .i64 10])))
    (by
      rintro ⟨rest, l⟩ ⟨ho, hlen, n, hn, hm⟩
      simp only at ho hlen hn hm
      obtain ⟨n, rfl⟩ : ∃ q, n = q + 1 := ⟨n - 1, by omega⟩
      by_cases hnil : rest = []
      · subst hnil
        right
        have hm' : R = some l := by rw [← hm]; simp [recF]
        have hbody : ∃ o, evCode (evC Dg) 70010 c27b0 (S27 cs ([], l)) = some o ∧ ∀ s, o ≠ .normal s := by
          have hz : bR [] = [] := rfl
          unfold c27b0
          simp [evCode, evOps, evOne, evOp, evPur, evEff, evPur.chunks, fillP, AOp.isEff, AO.ev, putP, PV.cells, PV.leaf, getB, getM, mapE, keyC, mapRows, mfind, eq1, eqL, scal, binP, unP, minP, maxP, foldP, PV.lt, PV.lt.ltL, endP, expoAll, expo, expo.expoL, frIds, frIds.frIdsL, nodupN, kill, cls, clsFuel, resO, RV.get, loadP, evC_p, evC_s, endS, endT, rowsOf, callP, thinL, unfr, unfr.unfrL, PV.noMem, PV.noMem.noMemL, optI, mapO, norm, trimT, trimB, forget, hasN, blksLt, List.set, S27, hz]
        obtain ⟨o, ho1, ho2⟩ := hbody
        exact ⟨o, ho1, ho2, .inl ⟨l, hm', ho1.symm⟩⟩
      · have e1 := bR_len rest
        have hpos : 0 < rest.length := List.length_pos_iff.2 hnil
        have hpos' : (0 : Int) < rest.length := by omega
        have h37 := f37 false rest (by omega) ho
        simp only [recF, hnil, if_false] at hm
        unfold frP at h37
        cases hf : frameF rest with
        | none =>
          right
          rw [hf] at h37 hm
          simp only [eB] at h37 hm
          have hbody : ∃ o, evCode (evC Dg) 70010 c27b0 (S27 cs (rest, l)) = some (.ret o) ∧ endP [.t 2, .t 3] (some (.ret o)) = some (.tup [.fr 1 [], .int .i64 10]) := by
            unfold c27b0
            simp [evCode, evOps, evOne, evOp, evPur, evEff, evPur.chunks, fillP, AOp.isEff, AO.ev, putP, PV.cells, PV.leaf, getB, getM, mapE, keyC, mapRows, mfind, eq1, eqL, scal, binP, unP, minP, maxP, foldP, PV.lt, PV.lt.ltL, endP, expoAll, expo, expo.expoL, frIds, frIds.frIdsL, nodupN, kill, cls, clsFuel, resO, RV.get, loadP, evC_p, evC_s, endS, endT, rowsOf, callP, thinL, unfr, unfr.unfrL, PV.noMem, PV.noMem.noMemL, optI, mapO, norm, trimT, trimB, forget, hasN, blksLt, List.set, S27, e1, hpos, hpos', h37, hcs]
          obtain ⟨o, ho1, ho3⟩ := hbody
          exact ⟨_, ho1, (fun s h => by cases h), .inr ⟨hm.symm, o, rfl, ho3⟩⟩
        | some rk =>
          obtain ⟨r, k⟩ := rk
          left
          rw [hf] at h37 hm
          simp only [eB] at h37 hm
          obtain ⟨k1, k2⟩ := frameF_size hf
          have p1 : (k : Int) ≤ rest.length := by omega
          have q1 : List.drop k (List.take rest.length (bR rest)) = bR (rest.drop k) := by rw [List.take_of_length_le (by rw [e1]; exact Nat.le_refl _), bR_drop]
          have q2 : List.take rest.length (bR rest) = bR rest := List.take_of_length_le (by rw [e1]; exact Nat.le_refl _)
          have q3 := bR_drop rest k
          have m1 : (l.length + 1) * 24 ≤ 140737488355328 := by omega
          have m2 : l.length + 1 ≤ 140737488355328 := by omega
          have e3 := rcR_app l [r]
          have e4 : rcR [r] = [[PV.sl true 1 (bR r)]] := rfl
          have e5 := rcR_len l
          refine ⟨(rest.drop k, l ++ [r]), ?_⟩
          unfold c27b0
          simp [evCode, evOps, evOne, evOp, evPur, evEff, evPur.chunks, fillP, AOp.isEff, AO.ev, putP, PV.cells, PV.leaf, getB, getM, mapE, keyC, mapRows, mfind, eq1, eqL, scal, binP, unP, minP, maxP, foldP, PV.lt, PV.lt.ltL, endP, expoAll, expo, expo.expoL, frIds, frIds.frIdsL, nodupN, kill, cls, clsFuel, resO, RV.get, loadP, evC_p, evC_s, endS, endT, rowsOf, callP, thinL, unfr, unfr.unfrL, PV.noMem, PV.noMem.noMemL, optI, mapO, norm, trimT, trimB, forget, hasN, blksLt, List.set, S27, e1, hpos, hpos', h37, hcs, p1, q1, q2, q3, m1, m2, e3, e4, e5]
          refine ⟨⟨fun z hz => ho z (List.mem_of_mem_drop hz), by omega, n, by omega, ?_⟩, by omega⟩
          rw [← hm]
          cases recF n (rest.drop k) with
          | none => rfl
          | some q => simp)
    (b, []) ⟨hb, by simp; omega, b.length + 1, Nat.le_refl _, by rw [← hR]; cases recF (b.length + 1) b <;> simp⟩ (by simp only; omega) s0 E hE h0
  obtain ⟨o, ho, h⟩ := H
  subst ho
  rcases h with h | ⟨h1, st, rfl, h2⟩
  · exact .inl h
  · exact .inr ⟨h1, st, rfl, h2⟩
end Go.Proofs.Ythoncigfbhinlaa
