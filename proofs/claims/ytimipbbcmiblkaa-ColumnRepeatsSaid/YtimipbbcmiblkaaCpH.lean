/- column: ColumnRepeats. -/
import Derived.Test.YtimipbbcmiblkaaCpG
import Derived.Test.YtimipbbcmiblkaaCoP
namespace Go.Proofs.Ytimipbbcmiblkaa
open Go Go.RowKit
set_option linter.unusedVariables false
set_option linter.unusedSimpArgs false
set_option maxHeartbeats 8000000

theorem vRows_nm : ∀ (l : List Val), PV.noMem.noMemLL (vRows l) = true
  | [] => rfl
  | v :: l => by
    have := vRows_nm l
    simp only [vRows, List.map_cons, vRow, PV.noMem.noMemLL, PV.noMem.noMemL, PV.noMem, Bool.and_true, Bool.true_and] at this ⊢
    exact this
theorem endR_full (l : List Val) (u : Val) : ∀ f j, j ≤ l.length → l.length - j ≤ f → (∀ p, j ≤ p → p < l.length → l[p]? = some u) → endR l u f j = l.length
  | 0, j, h1, h2, _ => by unfold endR; omega
  | f + 1, j, h1, h2, h3 => by
    unfold endR
    by_cases c : j < l.length
    · rw [if_pos (h3 j (Nat.le_refl _) c)]
      exact endR_full l u f (j + 1) (by omega) (by omega) fun p p1 p2 => h3 p (by omega) p2
    · rw [if_neg (by rw [List.getElem?_eq_none (by omega)]; simp)]
      omega
theorem putI_two8 (n : Nat) (h : n < 8192) : (putI (n : Int)).length ≤ 2 := by
  have e : zz (n : Int) = 2 * n := by unfold zz; rw [if_pos (by omega)]; omega
  unfold putI
  rw [e]
  unfold encU
  split
  · simp
  · unfold encU
    rw [if_pos (by omega)]
    simp
theorem runB_rep (v : Val) (m : Nat) (hm : m < 5000) (ok : okW v) : (runB (List.replicate m v)).length ≤ 4 + smV v := by
  unfold runB
  cases m with
  | zero => simp [runs]; omega
  | succ m =>
    have hl : (List.replicate (m + 1) v).length = m + 1 := List.length_replicate
    have hu : (List.replicate (m + 1) v)[0]? = some v := by simp
    have he := endR_full (List.replicate (m + 1) v) v (m + 1) 1 (by rw [hl]; omega) (by rw [hl]; omega) (fun p _ h => by rw [hl] at h; rw [List.getElem?_replicate, if_pos h])
    rw [hl] at he
    have hz : runs (List.replicate (m + 1) v) m (m + 1) = [] := by
      cases m with
      | zero => rfl
      | succ m => unfold runs; rw [List.getElem?_eq_none (by simp)]
    have h1 := putI_two8 (m + 1) (by omega)
    have h2 := vB_sm ok
    have hr : runs (List.replicate (m + 1) v) (m + 1) 0 = putI ((m + 1 : Nat) : Int) ++ (vB v ++ []) := by
      rw [runs, hu]
      simp only [hl, Nat.zero_add]
      rw [he, hz, Nat.sub_zero]
    rw [hl, hr]
    simp only [List.length_cons, List.length_append, List.length_nil]
    omega
theorem sel_mem_le : ∀ (L : List (Option (List Nat))) (b D : List Nat), some D ∈ L → (L.foldl sel b).length ≤ D.length
  | [], b, D, h => by simp at h
  | o :: L, b, D, h => by
    simp only [List.foldl_cons]
    rcases List.mem_cons.1 h with h | h
    · subst h
      have h1 := sel_le (sel b (some D)) L
      have h2 : (sel b (some D)).length ≤ D.length := by
        unfold sel
        simp only
        split
        · exact Nat.le_refl _
        · omega
      omega
    · exact sel_mem_le L (sel b o) D h
theorem short_run (k : Int) (l : List Val) : (short k l).length ≤ (runB l).length := sel_mem_le _ _ _ (by simp [cods])
theorem short_ne (k : Int) (l : List Val) : 0 < (short k l).length := by
  have hm := sel_mem (cods k l) (0 :: flB l)
  unfold short
  rcases hm with hm | hm
  · rw [hm]; simp
  · exact List.length_pos_iff.2 (cods_ne k l _ hm)
def S7 (v : Val) (k : Int) (n : Nat) (x : Int) (R1 : List PV) (i : Nat) : St := ⟨[.int .i64 k, .top, .int .u16 (n : Int), .top, .ptr 0 1 0 0, .top, .top, .ptr 1 1 0 0, .int .i64 x, .own 2 i 0 i, .int .i64 (i : Int)] ++ List.replicate 106 .top, [vbx v, some ⟨1, 3, true, [R1]⟩, some ⟨i, 3, true, vRows (List.replicate i v)⟩]⟩
def R7 (v : Val) (k : Int) (n : Nat) (x : Int) (R1 : List PV) (m : Nat) (o : Out) : Prop := ∃ z40 z41 z42 z43 z44, o = .exit 0 ⟨[.int .i64 k, .top, .int .u16 (n : Int), .top, .ptr 0 1 0 0, .top, .top, .ptr 1 1 0 0, .int .i64 x, .own 2 m 0 m, .int .i64 (m : Int), .top, .top, .top, .top, .top, .top, .top, .top, .top, .top, .top, .top, .top, .top, .top, .top, .top, .top, .top, .top, .top, .top, .top, .top, .top, .top, .top, .top, .top, z40, z41, z42, z43, z44] ++ List.replicate 72 .top, [vbx v, some ⟨1, 3, true, [R1]⟩, some ⟨m, 3, true, vRows (List.replicate m v)⟩]⟩
set_option maxRecDepth 100000 in
theorem loop7 (v : Val) (k : Int) (n : Nat) (x : Int) (R1 : List PV) (fu fuel : Nat) (hn : n ≤ 65535) (hf : n % 5000 < fuel) :
    ∀ s0 E, evLoop (evCode (evC Dg) fu c7b0) [0, 2, 4, 7, 8, 9, 10] 3 fuel s0 = E → norm [0, 2, 4, 7, 8, 9, 10] 3 s0 = S7 v k n x R1 0 → ∃ out, E = some out ∧ R7 v k n x R1 (n % 5000) out := by
  intro s0 E hE h0
  have hb0 : ∀ b, Nat.blt b 0 = false := fun b => by cases b <;> rfl
  have w0 := wrap_i64 (n : Int) (by omega) (by omega)
  have hr : Int.tmod (n : Int) 5000 = ((n % 5000 : Nat) : Int) := by rw [Int.tmod_eq_emod_of_nonneg (by omega)]; omega
  have hm5 : n % 5000 < 5000 := Nat.mod_lt _ (by omega)
  obtain ⟨m, hm⟩ := ex_eq (n % 5000)
  rw [hm] at hr hm5 hf ⊢
  clear hm
  have H := loop_while (body := evCode (evC Dg) fu c7b0) (keep := [0, 2, 4, 7, 8, 9, 10]) (n0 := 3) (fuel := fuel) (S7 v k n x R1) (fun i => m - i) (fun i => i ≤ m) (R7 v k n x R1 m)
    (by
      rintro i hi
      by_cases c : i = m
      · subst c
        right
        have eo := vRows_len (List.replicate i v)
        unfold c7b0
        simp [evCode, evOps, evOne, evOp, evPur, evEff, evPur.chunks, fillP, AOp.isEff, AO.ev, putP, PV.cells, PV.leaf, getB, getM, mapE, iterE, keyC, mapRows, mfind, eq1, eqL, scal, binP, unP, minP, maxP, foldP, PV.lt, PV.lt.ltL, endP, expoAll, expoG, expo, expo.expoL, frIds, frIds.frIdsL, nodupN, kill, cls, clsFuel, resO, RV.get, loadP, evC_p, evC_s, endS, endT, rowsOf, callP, thinL, unfr, unfr.unfrL, PV.noMem, PV.noMem.noMemL, optI, mapO, norm, trimT, trimB, forget, hasN, blksLt, List.set, softChk, softGo, softRd, effTg, rdP, S7, R7, vbx, w0, hr]
      · left
        have c1 : (i : Int) < m := by omega
        have c1' : i < m := by omega
        have w1 := wrap_i64 ((i : Int) + 1) (by omega) (by omega)
        have eo := vRows_len (List.replicate i v)
        rw [List.length_replicate] at eo
        have va : vRows (List.replicate (i + 1) v) = vRows (List.replicate i v) ++ [[.int .i64 v.1, .int .i64 v.2.1, .str v.2.2]] := by rw [List.replicate_succ']; exact vRows_app _ v
        have m1 : (i + 1) * 32 ≤ 140737488355328 := by omega
        have m2 : i + 1 ≤ 140737488355328 := by omega
        have J : i + 1 ≤ m := by omega
        have K : m - (i + 1) < m - i := by omega
        have b1 : Nat.blt 1 3 = true := rfl
        have b2 : Nat.blt 2 3 = true := rfl
        have b3 : Nat.blt 0 3 = true := rfl
        refine ⟨i + 1, ?_⟩
        refine (fun ⟨s', q1, q2⟩ => ⟨s', q1, q2, J, K⟩ : (∃ s', _ ∧ _) → _) ?_
        obtain ⟨R, hR⟩ := ex_eq (vRows (List.replicate i v))
        rw [hR] at eo va
        unfold S7
        rw [va]
        unfold c7b0
        simp [evCode, evOps, evOne, evOp, evPur, evEff, evPur.chunks, fillP, AOp.isEff, AO.ev, putP, PV.cells, PV.leaf, getB, getM, mapE, iterE, keyC, mapRows, mfind, eq1, eqL, scal, binP, unP, minP, maxP, foldP, PV.lt, PV.lt.ltL, endP, expoAll, expoG, expo, expo.expoL, frIds, frIds.frIdsL, nodupN, kill, cls, clsFuel, resO, RV.get, loadP, evC_p, evC_s, endS, endT, rowsOf, callP, thinL, unfr, unfr.unfrL, PV.noMem, PV.noMem.noMemL, optI, mapO, norm, trimT, trimB, forget, hasN, blksLt, List.set, softChk, softGo, softRd, effTg, rdP, vbx, w0, hr, c1, c1', w1, eo, m1, m2, hb0, hR])
    0 (Nat.zero_le _) (by omega) s0 E hE h0
  exact H
end Go.Proofs.Ytimipbbcmiblkaa
