/- column: Decode of what Encode wrote. -/
import Derived.Test.YtimipbbcmiblkaaCpF
namespace Go.Proofs.Ytimipbbcmiblkaa
open Go Go.RowKit
set_option linter.unusedVariables false
set_option linter.unusedSimpArgs false
set_option maxHeartbeats 4000000

theorem okB_app {a b : List Nat} (h1 : okB a) (h2 : okB b) : okB (a ++ b) := fun z hz => by
  rcases List.mem_append.1 hz with h | h
  · exact h1 z h
  · exact h2 z h
theorem okB_cons {z : Nat} {a : List Nat} (hz : z ≤ 255) (h : okB a) : okB (z :: a) := fun y hy => by
  rcases List.mem_cons.1 hy with rfl | hy
  · exact hz
  · exact h y hy
theorem okB_nil : okB [] := fun z hz => by simp at hz
theorem okB_enc : ∀ (g i w : Nat), i + g = 9 → w * 128 ^ i < 18446744073709551616 → okB (encU g w)
  | 0, i, w, hi, hw => by
    have i9 : i = 9 := by omega
    subst i9
    have e : (128 : Nat) ^ 9 = 9223372036854775808 := by decide
    rw [e] at hw
    exact okB_cons (by omega) okB_nil
  | g + 1, i, w, hi, hw => by
    unfold encU
    split
    · exact okB_cons (by omega) okB_nil
    · have hp : w / 128 * 128 ^ (i + 1) ≤ w * 128 ^ i := by
        rw [Nat.pow_succ, Nat.mul_comm (128 ^ i) 128, ← Nat.mul_assoc]
        exact Nat.mul_le_mul_right _ (by omega)
      exact okB_cons (by omega) (okB_enc g (i + 1) (w / 128) (by omega) (by omega))
theorem okB_put {n : Int} (h1 : -9223372036854775808 ≤ n) (h2 : n ≤ 9223372036854775807) : okB (putI n) := by
  have := zz_lt h1 h2
  exact okB_enc 9 0 (zz n) rfl (by simpa using this)
theorem okB_sB (s : List UInt8) : okB (sB s) := fun z hz => by
  simp only [sB, List.mem_map] at hz
  obtain ⟨b, _, rfl⟩ := hz
  have := b.toNat_lt
  omega
theorem okB_vB {v : Val} (h : okW v) : okB (vB v) := by
  obtain ⟨⟨h0, h1⟩, ⟨h2, h3⟩, h4⟩ := h
  unfold vB tlB
  refine okB_cons (by omega) ?_
  split
  · exact okB_put h2 h3
  · split
    · unfold putT
      exact okB_app (okB_put (by omega) (by omega)) (okB_sB _)
    · exact okB_nil
theorem okB_flB : ∀ {l : List Val}, (∀ v ∈ l, okW v) → okB (flB l)
  | [], _ => okB_nil
  | v :: l, h => by
    have e : flB (v :: l) = vB v ++ flB l := by simp [flB]
    rw [e]
    exact okB_app (okB_vB (h v (by simp))) (okB_flB fun w hw => h w (by simp [hw]))
theorem okB_runs {l : List Val} (h : ∀ v ∈ l, okW v) (hl : l.length ≤ 20000) : ∀ f i, i ≤ l.length → okB (runs l f i)
  | 0, i, _ => okB_nil
  | f + 1, i, hi => by
    unfold runs
    split
    · exact okB_nil
    · rename_i u hu
      have hil := (List.getElem?_eq_some_iff.1 hu).1
      have hle := endR_le l u l.length (i + 1) (by omega)
      exact okB_app (okB_put (by omega) (by omega)) (okB_app (okB_vB (h u (List.mem_of_getElem? hu))) (okB_runs h hl f _ hle))
theorem okB_dif : ∀ (l : List Val) (last : Int) (A : List Nat), dif last l = some A → okB A
  | [], last, A, h => by simp only [dif, Option.some.injEq] at h; subst h; exact okB_nil
  | v :: l, last, A, h => by
    rw [dif] at h
    split at h
    · cases h
    · cases hd : dif v.2.1 l with
      | none => rw [hd] at h; cases h
      | some B =>
        rw [hd] at h
        simp only [Option.map_some, Option.some.injEq] at h
        subst h
        obtain ⟨z1, z2⟩ := wrap_rng (v.2.1 - last)
        exact okB_app (okB_put z1 z2) (okB_dif l _ B hd)
theorem okB_tl {W : List Val} (hW : W.length ≤ 20000) : ∀ {l : List Val}, (∀ v ∈ l, ∃ i, posV W v 0 = some i) → okB (tlW W l)
  | [], _ => okB_nil
  | v :: l, h => by
    obtain ⟨i, hi⟩ := h v (by simp)
    have hlt := posV_lt W v 0 i hi
    have e : tlW W (v :: l) = putI (i : Int) ++ tlW W l := by simp [tlW, hi]
    rw [e]
    exact okB_app (okB_put (by omega) (by omega)) (okB_tl hW fun w hw => h w (by simp [hw]))
theorem okB_short {k : Int} (l : List Val) (h : ∀ v ∈ l, valV k v = 0 ∧ i64V v) (hl : l.length ≤ 20000) : okB (short k l) := by
  have ok : ∀ v ∈ l, okW v := fun v hv => valV_ok (h v hv).1 (h v hv).2
  have hm := sel_mem (cods k l) (0 :: flB l)
  unfold short
  rcases hm with hm | hm
  · rw [hm]; exact okB_cons (by omega) (okB_flB ok)
  · generalize List.foldl sel (0 :: flB l) (cods k l) = D at *
    simp only [cods, List.mem_cons, List.not_mem_nil, or_false, Option.some.injEq] at hm
    rcases hm with rfl | hm | rfl
    · exact okB_cons (by omega) (okB_runs ok hl _ _ (Nat.zero_le _))
    · unfold difR at hm
      split at hm
      · cases hm
      · cases hd : dif 0 l with
        | none => rw [hd] at hm; cases hm
        | some A =>
          rw [hd] at hm
          simp only [Option.map_some, Option.some.injEq] at hm
          subst hm
          exact okB_cons (by omega) (okB_dif l 0 A hd)
    · obtain ⟨h1, h2⟩ := dic_ok l
      obtain ⟨h3, h4⟩ := dicS_I34 l h hl l.length (Nat.le_refl _)
      rw [List.take_length] at h3 h4
      unfold dicB
      rw [h1]
      exact okB_cons (by omega) (okB_app (okB_put (by omega) (by omega)) (okB_app (okB_flB fun w hw => ok w (h4 w hw)) (okB_tl (by omega) h2)))
theorem f29_same (x y : Bool) (A : List Nat) : evE Dg 29 [.sl x 1 (bR A), .sl y 1 (bR A)] = some (.bool true) := by
  have h := bytes_bR A
  refine evE_intro 1 D29 rfl ?_
  unfold c29
  simp [evCode, evOps, evOne, evOp, evPur, evEff, evPur.chunks, fillP, AOp.isEff, AO.ev, putP, PV.cells, PV.leaf, getB, getM, mapE, iterE, keyC, mapRows, mfind, eq1, eqL, scal, binP, unP, minP, maxP, foldP, PV.lt, PV.lt.ltL, endP, expoAll, expoG, expo, expo.expoL, frIds, frIds.frIdsL, nodupN, kill, cls, clsFuel, resO, RV.get, loadP, evC_p, evC_s, endS, endT, rowsOf, callP, thinL, unfr, unfr.unfrL, PV.noMem, PV.noMem.noMemL, optI, mapO, norm, trimT, trimB, forget, hasN, blksLt, List.set, softChk, softGo, softRd, effTg, rdP, h]
theorem errL_zero {k : Int} : ∀ {l : List Val}, (∀ v ∈ l, valV k v = 0) → errL k l = 0
  | [], _ => rfl
  | v :: l, h => by
    unfold errL
    rw [if_pos (h v (by simp))]
    exact errL_zero fun w hw => h w (by simp [hw])
theorem encP_ok {k : Int} {l : List Val} (ht : typB k = true) (h : ∀ v ∈ l, valV k v = 0) (hl : l.length ≤ 20000) : encP k l = .tup [.agg [.int .i64 k, .int .i64 (l.length : Int), .fr 1 (bR (short k l))], .int .i64 0] := by
  unfold encP
  rw [if_pos ht, if_neg (by omega), if_pos (errL_zero h)]
set_option maxRecDepth 100000 in
theorem f14_ok (k : Int) (l : List Val) (ht : typB k = true) (h : ∀ v ∈ l, valV k v = 0 ∧ i64V v) (hl : l.length ≤ 20000) (hB : (short k l).length ≤ 1000000) : evE Dg 14 [pP k l.length (short k l)] = some (.tup [.fr 3 (vRows l), .int .i64 0]) := by
  have h19 := f19 k
  rw [ht] at h19
  have h28 := f28 k l.length (short k l) hl hB (okB_short l h hl)
  rw [decS_short l h hl] at h28
  have h12 := f12 false k l fun v hv => (h v hv).2
  rw [encP_ok ht (fun v hv => (h v hv).1) hl] at h12
  have h29 := fun x y => f29_same x y (short k l)
  generalize short k l = B at *
  have lB := bR_len B
  have nmB := bR_nm B
  have lV := vRows_len l
  have tV : (vRows l).take l.length = vRows l := List.take_of_length_le (by rw [lV]; exact Nat.le_refl _)
  have aV := vRows_lt l
  have iv2 : ∀ k R b, impV k (PV.tup [.fr 3 R, .bool b]) = .tup [.own k R.length 0 R.length, .bool b] := fun _ _ _ => rfl
  have ib2 : ∀ R b, impB (PV.tup [.fr 3 R, .bool b]) = [⟨R.length, 3, true, R⟩] := fun _ _ => rfl
  have n1 : ¬ (20000 : Int) < l.length := by omega
  have hb0 : ∀ b, Nat.blt b 0 = false := fun b => by cases b <;> rfl
  simp only [pP, trO, eV] at h28 h12
  refine evE_intro 1 D14 rfl ?_
  unfold c14
  simp [evCode, evOps, evOne, evOp, evPur, evEff, evPur.chunks, fillP, AOp.isEff, AO.ev, putP, PV.cells, PV.leaf, getB, getM, mapE, iterE, keyC, mapRows, mfind, eq1, eqL, scal, binP, unP, minP, maxP, foldP, PV.lt, PV.lt.ltL, endP, expoAll, expoG, expo, expo.expoL, frIds, frIds.frIdsL, nodupN, kill, cls, clsFuel, resO, RV.get, loadP, evC_p, evC_s, endS, endT, rowsOf, callP, thinL, unfr, unfr.unfrL, PV.noMem, PV.noMem.noMemL, optI, mapO, norm, trimT, trimB, forget, hasN, blksLt, List.set, softChk, softGo, softRd, effTg, rdP, pP, h19, h28, h12, h29, n1, lB, lV, hb0, tV, aV, iv2, ib2, nmB]
end Go.Proofs.Ytimipbbcmiblkaa
