/- itree: examined, Overlap, Stab, Visits. -/
import Derived.Test.YtkodjmlhmpokoaaItQ
import Derived.Test.YtkodjmlhmpokoaaItR
namespace Go.Proofs.Ytkodjmlhmpokoaa
open Go Go.RowKit
set_option linter.unusedVariables false
set_option linter.unusedSimpArgs false
set_option maxHeartbeats 4000000

theorem norm_any {keep : List Nat} {n0 : Nat} {sl : List PV} {bl : Blks} (hl : n0 ≤ bl.length) :
    ∃ t, n0 ≤ t ∧ t ≤ bl.length ∧ (norm keep n0 ⟨sl, bl⟩).bl = bl.take t ∧ (t = bl.length ∨ (PV.lt.ltL t (forget keep 0 sl) = true ∧ blksLt t (bl.take t) = true)) := by
  have h0 := trimT_ge (sl := forget keep 0 sl) (bl := bl) (bl.length - n0) n0
  unfold norm trimB
  simp only
  generalize trimT (forget keep 0 sl) bl (bl.length - n0) n0 = t at *
  split
  · rename_i hc
    simp only [Bool.and_eq_true] at hc
    by_cases htl : t ≤ bl.length
    · exact ⟨t, h0, htl, rfl, .inr hc⟩
    · refine ⟨bl.length, hl, Nat.le_refl _, ?_, .inl rfl⟩
      simp only
      rw [List.take_of_length_le (by omega), List.take_of_length_le (Nat.le_refl _)]
  · refine ⟨bl.length, hl, Nat.le_refl _, ?_, .inl rfl⟩
    simp only
    rw [List.take_of_length_le (Nat.le_refl _)]
theorem blksLt_get {t : Nat} : ∀ {l : Blks} {i : Nat} {x : Blk}, blksLt t l = true → l[i]? = some (some x) → (x.flat || x.rows.all (PV.lt.ltL t)) = true
  | [], i, x, _, h => by simp at h
  | y :: l, 0, x, h1, h => by
    simp at h; subst h
    simp only [blksLt, Bool.and_eq_true] at h1
    exact h1.1
  | y :: l, i + 1, x, h1, h => by
    simp at h
    cases y with
    | none => exact blksLt_get (l := l) (i := i) (by simpa [blksLt] using h1) h
    | some y => simp only [blksLt, Bool.and_eq_true] at h1; exact blksLt_get h1.2 h
/-- the end of a call that hands out the pointer -/
theorem end_ptr {bl : Blks} {e0 n0 : Nat} (hl : n0 ≤ bl.length) (he : e0 < bl.length) :
    ∃ t, n0 ≤ t ∧ e0 < t ∧ t ≤ bl.length ∧ endT n0 (.ptr e0 1 0 0) bl = (.ptr e0 1 0 0, bl.take t) ∧ (t = bl.length ∨ blksLt t (bl.take t) = true) := by
  obtain ⟨t, t1, t2, t3, t4⟩ := norm_any (keep := [0]) (sl := [.ptr e0 1 0 0]) hl
  have hE : endT n0 (.ptr e0 1 0 0) bl = (.ptr e0 1 0 0, bl.take t) := by unfold endT; rw [t3]
  rcases t4 with rfl | ⟨h1, h2⟩
  · exact ⟨_, t1, he, Nat.le_refl _, hE, .inl rfl⟩
  · refine ⟨t, t1, ?_, t2, hE, .inr h2⟩
    simpa [forget, hasN, PV.lt.ltL, PV.lt, Nat.blt_eq] using h1
theorem ExI.end_ptr {x a b : Bool} {l : List Sp} {s : Sp} {e0 v : Nat} {d : List Nat} {bl : Blks} {n0 : Nat} (h : ExI x a b l s e0 v d bl) (hn : n0 ≤ bl.length) :
    ∃ bl', endT n0 (.ptr e0 1 0 0) bl = (.ptr e0 1 0 0, bl') ∧ n0 ≤ bl'.length ∧ ExI x a b l s e0 v d bl' := by
  obtain ⟨t, t1, t2, t3, t4, t5⟩ := Go.Proofs.Ytkodjmlhmpokoaa.end_ptr hn h.lt
  refine ⟨_, t4, by simp; omega, ?_⟩
  rcases t5 with rfl | t5
  · rw [List.take_of_length_le (Nat.le_refl _)]; exact h
  · have key : ∀ i, i < t → (bl.take t)[i]? = bl[i]? := fun i hi => List.getElem?_take_of_lt hi
    rcases h with ⟨hd, h⟩ | ⟨c, hc, h1, h2⟩
    · exact .inl ⟨hd, by rw [key _ t2]; exact h⟩
    · have hb := blksLt_get t5 (by rw [key _ t2]; exact h2)
      have hct : c < t := by
        simp [ob, eS, eI, PV.lt.ltL, PV.lt] at hb
        exact hb
      exact .inr ⟨c, hc, by rw [key _ hct]; exact h1, by rw [key _ t2]; exact h2⟩
theorem evS31 {args : List PV} {bl blf : Blks} {p : PV} {r : PV × Blks} (k : Nat) (hl : args.length = 3) (h : ∃ st, evCode (evC Dg) k c31.code ⟨args ++ List.replicate 18 .top, bl⟩ = some (.ret st) ∧ RV.get st (.t 6) = some p ∧ st.bl = blf) (hr : endT bl.length p blf = r) : evS Dg 31 args bl = some r := by
  obtain ⟨st, h, h2, rfl⟩ := h
  refine evS_intro k D31 hl ?_
  change endS [.t 6] bl.length (evCode (evC Dg) k c31.code ⟨args ++ List.replicate 18 .top, bl⟩) = _
  rw [h, ← hr]
  unfold endS
  simp only [resO, h2]
def obG (x a b : Bool) (l : List Sp) (o m : List Int) (s : Sp) : List (List PV) := [[eS x l, eI a o, eI b m, .int .i64 s.1, .int .i64 s.2, .int .i64 0, .nilS]]
set_option maxRecDepth 100000 in
theorem f31_true (x a b : Bool) (l : List Sp) (s : Sp) (hl : l.length < 1000000) (bl0 : Blks) :
    ∃ bl', evS Dg 31 [eS x l, .agg [eI a (ordI l), eI b (mostP l)], vS s] bl0 = some (.ptr (bl0.length + 2) 1 0 0, bl') ∧ bl0.length ≤ bl'.length ∧ ExI x a b l s (bl0.length + 2) (exv l s l.length 0 l.length) (exf l s l.length 0 l.length) bl' := by
  have h12 := f12 x a b l (ordI l) (mostP l) hl (ordP_len l) (ordP_lt l) (by rw [ordI_len]; omega) (by rw [mostP_len]; omega)
  simp only [decide_true, Bool.and_self] at h12
  have I0 : ExI x a b l s (bl0.length + 2) 0 [] (bl0 ++ [bxX a b (ordI l) (mostP l), bxS s, some ⟨1, 7, true, ob x a b l s 0 .nilS⟩]) := .inl ⟨rfl, by simp⟩
  obtain ⟨bl2, s2, L2, I2⟩ := f41 x a b l s (by omega) l.length 0 l.length (by omega) (Nat.le_refl _) (by omega) (bl0.length + 2) 0 [] _ I0 (by omega) (by simp; omega)
  rw [Nat.zero_add, List.nil_append] at I2
  simp only [List.length_append, List.length_cons, List.length_nil] at L2
  obtain ⟨bl', q1, q2, q3⟩ := I2.end_ptr (n0 := bl0.length) (by omega)
  refine ⟨bl', evS31 1 rfl ?_ q1, q2, q3⟩
  have e1 := spRows_len l
  have L3 : bl0.length + 3 ≤ bl2.length := by omega
  have hb0 : ∀ b, Nat.blt b 0 = false := fun b => by cases b <;> rfl
  simp only [ob, eI, eS, bxX, bxS, vS] at s2 h12
  push_cast at s2
  unfold c31
  simp [evCode, evOps, evOne, evOp, evPur, evEff, evPur.chunks, fillP, AOp.isEff, AO.ev, putP, PV.cells, PV.leaf, getB, getM, mapE, iterE, keyC, mapRows, mfind, eq1, eqL, scal, binP, unP, minP, maxP, foldP, PV.lt, PV.lt.ltL, endP, expoAll, expoG, expo, expo.expoL, frIds, frIds.frIdsL, nodupN, kill, cls, clsFuel, resO, RV.get, loadP, evC_p, evC_s, endS, endT, rowsOf, callP, thinL, unfr, unfr.unfrL, PV.noMem, PV.noMem.noMemL, optI, mapO, norm, trimT, trimB, forget, hasN, blksLt, List.set, softChk, softGo, softRd, effTg, rdP, eI, eS, vS, h12, s2, L3, e1, hb0]
set_option maxRecDepth 100000 in
theorem f31_false (x a b : Bool) (l : List Sp) (o m : List Int) (s : Sp) (hl : l.length < 1000000) (hol : o.length ≤ 1000000) (hml : m.length ≤ 1000000) (hc : (decide (o = ordI l) && decide (m = mostP l)) = false) (bl0 : Blks) :
    ∃ bl', evS Dg 31 [eS x l, .agg [eI a o, eI b m], vS s] bl0 = some (.ptr (bl0.length + 2) 1 0 0, bl') ∧ bl0.length ≤ bl'.length ∧ bl'[bl0.length + 2]? = some (some ⟨1, 7, true, obG x a b l o m s⟩) := by
  have h12 := f12 x a b l o m hl (ordP_len l) (ordP_lt l) hol hml
  rw [hc] at h12
  obtain ⟨t, t1, t2, t3, t4, _⟩ := end_ptr (bl := bl0 ++ [bxX a b o m, bxS s, some ⟨1, 7, true, obG x a b l o m s⟩]) (e0 := bl0.length + 2) (n0 := bl0.length) (by simp) (by simp)
  refine ⟨_, evS31 1 rfl ?_ t4, by simp; omega, by rw [List.getElem?_take_of_lt t2]; simp⟩
  have hb0 : ∀ b, Nat.blt b 0 = false := fun b => by cases b <;> rfl
  simp only [eI, eS, vS] at h12
  unfold c31
  simp [evCode, evOps, evOne, evOp, evPur, evEff, evPur.chunks, fillP, AOp.isEff, AO.ev, putP, PV.cells, PV.leaf, getB, getM, mapE, iterE, keyC, mapRows, mfind, eq1, eqL, scal, binP, unP, minP, maxP, foldP, PV.lt, PV.lt.ltL, endP, expoAll, expoG, expo, expo.expoL, frIds, frIds.frIdsL, nodupN, kill, cls, clsFuel, resO, RV.get, loadP, evC_p, evC_s, endS, endT, rowsOf, callP, thinL, unfr, unfr.unfrL, PV.noMem, PV.noMem.noMemL, optI, mapO, norm, trimT, trimB, forget, hasN, blksLt, List.set, softChk, softGo, softRd, effTg, rdP, eI, eS, vS, h12, hb0, bxX, bxS, obG]
end Go.Proofs.Ytkodjmlhmpokoaa
