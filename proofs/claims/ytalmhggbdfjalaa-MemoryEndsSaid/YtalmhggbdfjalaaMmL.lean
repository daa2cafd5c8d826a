/- MemoryLater. -/
import Derived.Test.YtalmhggbdfjalaaMmJ
import Derived.Test.YtalmhggbdfjalaaMmK
namespace Go.Proofs.Ytalmhggbdfjalaa
open Go Go.RowKit
set_option linter.unusedVariables false
set_option linter.unusedSectionVars false
set_option linter.unusedSimpArgs false
set_option maxHeartbeats 4000000

def fixE (E : Int) (b : Bk) : Bk := if b.lv = true then { b with e := E } else b
def neB (b : Bk) : Bool := decide (b.f ≠ b.e)
theorem fixE_f (E : Int) (b : Bk) : (fixE E b).f = b.f := by unfold fixE; split <;> rfl
theorem mkB_fix (E1 E2 : Int) (t : Td) (r : List Td) : mkB E1 t r = fixE E1 (mkB E2 t r) := by
  unfold mkB
  cases r.find? (isE t.n) <;> simp [fixE, newB]
theorem allB_fix (E1 E2 : Int) : ∀ l : List Td, allB E1 l = (allB E2 l).map (fixE E1)
  | [] => rfl
  | t :: r => by
    unfold allB
    rw [List.map_append, ← allB_fix E1 E2 r, mkB_fix E1 E2 t r]
    cases isA t <;> simp
theorem srtS_filter (p : Bk → Bool) (l : List Bk) : srtS leB (l.filter p) = (srtS leB l).filter p := by
  refine (SSt.eq leB_ord (s := (srtS leB l).filter p) ⟨?_, fun a => ?_⟩).symm
  · exact List.Pairwise.filter p (srtS_SSt leB_ord l).1
  · have h := (srtS_SSt leB_ord l).2 a
    have e : ∀ s : List Bk, (s.filter p).filter (eqv leB a) = (s.filter (eqv leB a)).filter p := by
      intro s
      rw [List.filter_filter, List.filter_filter]
      refine List.filter_congr fun x _ => ?_
      rw [Bool.and_comm]
    rw [e, e, h]
theorem putS_map (g : Bk → Bk) (hg : ∀ b, (g b).f = b.f) (b : Bk) : ∀ s : List Bk, putS leB (g b) (s.map g) = (putS leB b s).map g
  | [] => rfl
  | x :: s => by
    have ih := putS_map g hg b s
    rw [List.map_cons]
    unfold putS
    have e : leB (g x) (g b) = leB x b := by unfold leB; rw [hg, hg]
    rw [e]
    split
    · rw [List.map_cons, ih]
    · rfl
theorem srtS_map (g : Bk → Bk) (hg : ∀ b, (g b).f = b.f) (l : List Bk) : srtS leB (l.map g) = (srtS leB l).map g := by
  suffices h : ∀ (l s : List Bk), (l.map g).foldl (fun s b => putS leB b s) (s.map g) = (l.foldl (fun s b => putS leB b s) s).map g from h l []
  intro l
  induction l with
  | nil => intro s; rfl
  | cons b l ih =>
    intro s
    rw [List.map_cons, List.foldl_cons, List.foldl_cons, putS_map g hg, ih]
theorem mkB_f (e : Int) (t : Td) (r : List Td) : (mkB e t r).f = tm t := by unfold mkB; split <;> rfl
theorem mkB_e (e : Int) (t : Td) (r : List Td) (h : (mkB e t r).lv = true) : (mkB e t r).e = e := by
  unfold mkB at h ⊢
  split
  · rename_i x hx
    rw [hx] at h
    cases h
  · rfl
theorem allB_all {P : Bk → Prop} (e : Int) : ∀ (l : List Td), (∀ i t, l[i]? = some t → isA t = true → P (mkB e t (l.drop (i + 1)))) → ∀ b ∈ allB e l, P b
  | [], _, b, h => by simp [allB] at h
  | t :: r, hP, b, h => by
    unfold allB at h
    rcases List.mem_append.1 h with h | h
    · split at h
      · rename_i hA
        rw [List.mem_singleton] at h
        rw [h]
        exact hP 0 t rfl hA
      · cases h
    · exact allB_all e r (fun i u hu hA => hP (i + 1) u hu hA) b h
theorem tm_le_end {l : List Td} (h : okT l) {i : Nat} {t : Td} (ht : l[i]? = some t) (e : Int) : tm t ≤ endM l e := by
  have hi := (List.getElem?_eq_some_iff.1 ht).1
  obtain ⟨u, h1, h2⟩ := last_get (l := l) (by omega)
  have h3 := okT_times h (by omega : i ≤ l.length - 1) ht h1
  unfold endM
  rw [h2]
  have h4 : tm u = clp (tm u) := by
    unfold tm
    obtain ⟨h5, h6⟩ := clp_rng u.lo
    rw [clp_id h5 h6]
  have h5 : clp (tm u) ≤ clp (if e < tm u then tm u else e) := clp_mono (by split <;> omega)
  simp only
  omega
theorem end_mono (l : List Td) {a b : Int} (h : a ≤ b) : endM l a ≤ endM l b := by
  unfold endM
  cases l.getLast? with
  | none => exact clp_mono h
  | some u =>
    refine clp_mono ?_
    simp only
    (repeat' split) <;> omega
theorem filt_two (p q : Bk → Bool) (g : Bk → Bk) : ∀ (l : List Bk), (∀ b ∈ l, p (g b) = (p b && q (g b))) → ((l.filter p).map g).filter q = (l.map g).filter p
  | [], _ => rfl
  | b :: l, h => by
    have ih := filt_two p q g l fun b hb => h b (List.mem_cons_of_mem _ hb)
    have hb := h b (List.mem_cons_self ..)
    rw [List.map_cons, List.filter_cons, List.filter_cons]
    cases hp : p b with
    | false =>
      rw [hp, Bool.false_and] at hb
      rw [hb, if_neg Bool.false_ne_true, if_neg Bool.false_ne_true, ih]
    | true =>
      rw [hp, Bool.true_and] at hb
      rw [if_pos rfl, List.map_cons, List.filter_cons, hb, ih]
/-- a greater end -/
theorem later {l : List Td} (h : okT l) {a b : Int} (hab : a ≤ b) : ((ofB l b).map (fixE (endM l a))).filter neB = ofB l a := by
  unfold ofB
  rw [← srtS_map _ (fixE_f _), ← srtS_filter]
  congr 1
  have hmono := end_mono l hab
  have hte := fun i t (ht : l[i]? = some t) => tm_le_end h ht a
  generalize endM l a = E1 at *
  generalize endM l b = E2 at *
  rw [allB_fix E1 E2 l]
  refine filt_two _ _ _ _ ?_
  refine allB_all E2 l fun i t ht hA => ?_
  have h1 := mkB_f E2 t (l.drop (i + 1))
  have h2 := mkB_e E2 t (l.drop (i + 1))
  have h3 := hte i t ht
  generalize mkB E2 t (l.drop (i + 1)) = c at *
  unfold fixE keepB neB
  cases hl : c.lv with
  | true =>
    have h4 := h2 hl
    simp only [if_true]
    by_cases h5 : c.f < E1
    · have h6 : c.f < c.e := by omega
      have h7 : c.f ≠ E1 := by omega
      simp [h5, h6, h7]
    · have h7 : c.f = E1 := by omega
      simp [h5, h7]
  | false =>
    simp only [Bool.false_eq_true, if_false]
    by_cases h5 : c.f < c.e
    · have h7 : c.f ≠ c.e := by omega
      simp [h5, h7]
    · simp [h5]
theorem filt_at {α : Type} (p : α → Bool) : ∀ (l : List α) (i : Nat) (x : α), l[i]? = some x → p x = true → (l.filter p)[((l.take i).filter p).length]? = some x
  | [], i, x, h, _ => by simp at h
  | y :: l, 0, x, h, hp => by
    simp at h
    subst h
    rw [List.filter_cons, if_pos hp]
    rfl
  | y :: l, i + 1, x, h, hp => by
    have ih := filt_at p l i x (by simpa using h) hp
    rw [List.take_succ_cons, List.filter_cons, List.filter_cons]
    split
    · rw [List.length_cons, List.getElem?_cons_succ]; exact ih
    · exact ih
def S7 (l : List Td) (a : Int) (A Bm : List Bk) (i k : Nat) : St := ⟨[.sl false 10 (tRows l), .int .i64 a, .top, .top, .top, .top, .top, .sl false 7 (bRows A), .sl false 7 (bRows Bm), .int .i64 k, .int .i64 i] ++ List.replicate 72 .top, []⟩
section
variable (l : List Td) (hl : l.length ≤ 1000) (a : Int) (A Bm : List Bk) (hA : A.length ≤ 1000) (hB : Bm.length ≤ 1000) (i k : Nat) (b : Bk) (hb : Bm[i]? = some b) (hst : b.st.length ≤ 1000) (f : Nat)
include hl hA hB hb hst
set_option maxRecDepth 100000 in
theorem later_skip (h : neB (fixE (endM l a) b) = false) : ∃ s, evCode (evC Dg) f c7b0 (S7 l a A Bm i k) = some (.normal s) ∧ norm [0, 1, 7, 8, 9, 10] 0 s = S7 l a A Bm (i + 1) k := by
  have hi : i < Bm.length := (List.getElem?_eq_some_iff.1 hb).1
  have hi' : (i : Int) < Bm.length := by omega
  have w1 := wrap_i64 ((i : Int) + 1) (by omega) (by omega)
  have eL := bRows_len Bm
  have eg := bRows_get hb
  have eg' := bRows_getE hb
  have h24 := f24 l (by omega) a
  generalize endM l a = E at *
  obtain ⟨x1, x2, x3, x4, x5, x6, lv⟩ := b
  cases lv with
  | true =>
    have h1 : x4 = E := by unfold neB fixE at h; simpa using h
    unfold c7b0
    simp [evCode, evOps, evOne, evOp, evPur, evEff, evPur.chunks, fillP, AOp.isEff, AO.ev, putP, PV.cells, PV.leaf, getB, getM, mapE, iterE, keyC, mapRows, mfind, eq1, eqL, scal, binP, unP, minP, maxP, foldP, PV.lt, PV.lt.ltL, endP, expoAll, expoG, expo, expo.expoL, frIds, frIds.frIdsL, nodupN, kill, cls, clsFuel, resO, RV.get, loadP, evC_p, evC_s, endS, endT, rowsOf, callP, thinL, unfr, unfr.unfrL, PV.noMem, PV.noMem.noMemL, optI, mapO, norm, trimT, trimB, forget, hasN, blksLt, List.set, softChk, softGo, softRd, effTg, rdP, S7, hi, hi', w1, eL, eg, eg', bRow, eTx, h24, h1]
  | false =>
    have h1 : x4 = x5 := by unfold neB fixE at h; simpa using h
    unfold c7b0
    simp [evCode, evOps, evOne, evOp, evPur, evEff, evPur.chunks, fillP, AOp.isEff, AO.ev, putP, PV.cells, PV.leaf, getB, getM, mapE, iterE, keyC, mapRows, mfind, eq1, eqL, scal, binP, unP, minP, maxP, foldP, PV.lt, PV.lt.ltL, endP, expoAll, expoG, expo, expo.expoL, frIds, frIds.frIdsL, nodupN, kill, cls, clsFuel, resO, RV.get, loadP, evC_p, evC_s, endS, endT, rowsOf, callP, thinL, unfr, unfr.unfrL, PV.noMem, PV.noMem.noMemL, optI, mapO, norm, trimT, trimB, forget, hasN, blksLt, List.set, softChk, softGo, softRd, effTg, rdP, S7, hi, hi', w1, eL, eg, eg', bRow, eTx, h1]
set_option maxRecDepth 100000 in
theorem later_next (h : neB (fixE (endM l a) b) = true) (hk : A[k]? = some (fixE (endM l a) b)) : ∃ s, evCode (evC Dg) f c7b0 (S7 l a A Bm i k) = some (.normal s) ∧ norm [0, 1, 7, 8, 9, 10] 0 s = S7 l a A Bm (i + 1) (k + 1) := by
  have hi : i < Bm.length := (List.getElem?_eq_some_iff.1 hb).1
  have hi' : (i : Int) < Bm.length := by omega
  have hk1 : k < A.length := (List.getElem?_eq_some_iff.1 hk).1
  have hk2 : (k : Int) < A.length := by omega
  have hk3 : ¬ (A.length : Int) ≤ k := by omega
  have hk4 : ¬ A.length ≤ k := by omega
  have w1 := wrap_i64 ((i : Int) + 1) (by omega) (by omega)
  have w2 := wrap_i64 ((k : Int) + 1) (by omega) (by omega)
  have eL := bRows_len Bm
  have eA := bRows_len A
  have eg := bRows_get hb
  have eg' := bRows_getE hb
  have ek := bRows_get hk
  have ek' := bRows_getE hk
  have h24 := f24 l (by omega) a
  have h26 := f26 (fixE (endM l a) b) (by unfold fixE; split <;> first | omega | (simp only; omega))
  generalize endM l a = E at *
  obtain ⟨x1, x2, x3, x4, x5, x6, lv⟩ := b
  cases lv with
  | true =>
    have h1 : ¬ x4 = E := by unfold neB fixE at h; simpa using h
    simp only [fixE, if_true, bRow, eTx] at h26 ek ek'
    unfold c7b0
    simp [evCode, evOps, evOne, evOp, evPur, evEff, evPur.chunks, fillP, AOp.isEff, AO.ev, putP, PV.cells, PV.leaf, getB, getM, mapE, iterE, keyC, mapRows, mfind, eq1, eqL, scal, binP, unP, minP, maxP, foldP, PV.lt, PV.lt.ltL, endP, expoAll, expoG, expo, expo.expoL, frIds, frIds.frIdsL, nodupN, kill, cls, clsFuel, resO, RV.get, loadP, evC_p, evC_s, endS, endT, rowsOf, callP, thinL, unfr, unfr.unfrL, PV.noMem, PV.noMem.noMemL, optI, mapO, norm, trimT, trimB, forget, hasN, blksLt, List.set, softChk, softGo, softRd, effTg, rdP, S7, hi, hi', hk1, hk2, hk3, hk4, w1, w2, eL, eA, eg, eg', ek, ek', bRow, eTx, h24, h26, h1]
  | false =>
    have h1 : ¬ x4 = x5 := by unfold neB fixE at h; simpa using h
    simp only [fixE, Bool.false_eq_true, if_false, bRow, eTx] at h26 ek ek'
    unfold c7b0
    simp [evCode, evOps, evOne, evOp, evPur, evEff, evPur.chunks, fillP, AOp.isEff, AO.ev, putP, PV.cells, PV.leaf, getB, getM, mapE, iterE, keyC, mapRows, mfind, eq1, eqL, scal, binP, unP, minP, maxP, foldP, PV.lt, PV.lt.ltL, endP, expoAll, expoG, expo, expo.expoL, frIds, frIds.frIdsL, nodupN, kill, cls, clsFuel, resO, RV.get, loadP, evC_p, evC_s, endS, endT, rowsOf, callP, thinL, unfr, unfr.unfrL, PV.noMem, PV.noMem.noMemL, optI, mapO, norm, trimT, trimB, forget, hasN, blksLt, List.set, softChk, softGo, softRd, effTg, rdP, S7, hi, hi', hk1, hk2, hk3, hk4, w1, w2, eL, eA, eg, eg', ek, ek', bRow, eTx, h26, h1]
end
set_option maxRecDepth 100000 in
theorem f7 (l : List Td) (a b : Int) : evE Dg 7 [.sl false 10 (tRows l), .int .i64 a, .int .i64 b] = some (.bool true) := by
  have h8 := f8 l
  have h9 := f9
  cases hs : smallT l with
  | false =>
    rw [hs] at h8
    refine evE_intro 1 D7 rfl ?_
    unfold c7
    simp [evCode, evOps, evOne, evOp, evPur, evEff, evPur.chunks, fillP, AOp.isEff, AO.ev, putP, PV.cells, PV.leaf, getB, getM, mapE, iterE, keyC, mapRows, mfind, eq1, eqL, scal, binP, unP, minP, maxP, foldP, PV.lt, PV.lt.ltL, endP, expoAll, expoG, expo, expo.expoL, frIds, frIds.frIdsL, nodupN, kill, cls, clsFuel, resO, RV.get, loadP, evC_p, evC_s, endS, endT, rowsOf, callP, thinL, unfr, unfr.unfrL, PV.noMem, PV.noMem.noMemL, optI, mapO, norm, trimT, trimB, forget, hasN, blksLt, List.set, softChk, softGo, softRd, effTg, rdP, h8, h9]
  | true =>
    rw [hs] at h8
    obtain ⟨hl, hst⟩ := small_st hs
    rcases f22 l (by omega) with ⟨h22, hok⟩ | ⟨h22, _⟩
    · by_cases hab : b < a
      · refine evE_intro 1 D7 rfl ?_
        unfold c7
        simp [evCode, evOps, evOne, evOp, evPur, evEff, evPur.chunks, fillP, AOp.isEff, AO.ev, putP, PV.cells, PV.leaf, getB, getM, mapE, iterE, keyC, mapRows, mfind, eq1, eqL, scal, binP, unP, minP, maxP, foldP, PV.lt, PV.lt.ltL, endP, expoAll, expoG, expo, expo.expoL, frIds, frIds.frIdsL, nodupN, kill, cls, clsFuel, resO, RV.get, loadP, evC_p, evC_s, endS, endT, rowsOf, callP, thinL, unfr, unfr.unfrL, PV.noMem, PV.noMem.noMemL, optI, mapO, norm, trimT, trimB, forget, hasN, blksLt, List.set, softChk, softGo, softRd, effTg, rdP, h8, h9, h22, hab]
      · have h11 := f11 l (by omega) a
        have h12 := f11 l (by omega) b
        have hlat := later hok (by omega : a ≤ b)
        have lA := ofB_len l a
        have lB := ofB_len l b
        have hstB : ∀ x ∈ ofB l b, x.st.length ≤ 1000 := fun x hx => by
          obtain ⟨t, ht, e1⟩ := allB_st _ _ _ (ofB_mem hx).1
          rw [e1]
          have := hst t ht
          omega
        have hAB : (ofB l a).length ≤ (ofB l b).length := by
          rw [← hlat]
          exact Nat.le_trans (List.length_filter_le _ _) (by rw [List.length_map]; omega)
        generalize ofB l a = A at *
        generalize ofB l b = Bm at *
        have H := fun (s0 : St) (E : Option Out) => loop_inv (body := evCode (evC Dg) 3000 c7b0) (keep := [0, 1, 7, 8, 9, 10]) (n0 := 0) (fuel := 3000) Bm (fun i k => S7 l a A Bm i k) (fun i k => k = (((Bm.map (fixE (endM l a))).take i).filter neB).length) (fun _ => False) (by
          intro i x k hx hi hI
          left
          have hx2 : (Bm.map (fixE (endM l a)))[i]? = some (fixE (endM l a) x) := by rw [List.getElem?_map, hx]; rfl
          have htk : (((Bm.map (fixE (endM l a))).take (i + 1)).filter neB).length = k + if neB (fixE (endM l a) x) = true then 1 else 0 := by
            rw [List.take_add_one, hx2, hI, List.filter_append, List.length_append]
            congr 1
            have e0 : (some (fixE (endM l a) x)).toList = [fixE (endM l a) x] := rfl
            rw [e0]
            by_cases hc : neB (fixE (endM l a) x) = true
            · rw [if_pos hc, List.filter_cons_of_pos hc]; rfl
            · rw [if_neg hc, List.filter_cons_of_neg hc]; rfl
          cases hn : neB (fixE (endM l a) x) with
          | false =>
            rw [hn, if_neg Bool.false_ne_true] at htk
            obtain ⟨s, h1, h2⟩ := later_skip l (by omega) a A Bm (by omega) (by omega) i k x hx (hstB x (List.mem_of_getElem? hx)) 3000 hn
            exact ⟨_, s, h1, h2, htk.symm⟩
          | true =>
            rw [hn, if_pos rfl] at htk
            have hat := filt_at neB _ i _ hx2 hn
            rw [hlat, ← hI] at hat
            obtain ⟨s, h1, h2⟩ := later_next l (by omega) a A Bm (by omega) (by omega) i k x hx (hstB x (List.mem_of_getElem? hx)) 3000 hn hat
            exact ⟨_, s, h1, h2, htk.symm⟩) (by
          intro k _ s
          have eL := bRows_len Bm
          unfold c7b0
          simp [evCode, evOps, evOne, evOp, evPur, evEff, evPur.chunks, fillP, AOp.isEff, AO.ev, putP, PV.cells, PV.leaf, getB, getM, mapE, iterE, keyC, mapRows, mfind, eq1, eqL, scal, binP, unP, minP, maxP, foldP, PV.lt, PV.lt.ltL, endP, expoAll, expoG, expo, expo.expoL, frIds, frIds.frIdsL, nodupN, kill, cls, clsFuel, resO, RV.get, loadP, evC_p, evC_s, endS, endT, rowsOf, callP, thinL, unfr, unfr.unfrL, PV.noMem, PV.noMem.noMemL, optI, mapO, norm, trimT, trimB, forget, hasN, blksLt, List.set, softChk, softGo, softRd, effTg, rdP, S7, eL]) (by omega) 0 (by simp) s0 E
        have eA := bRows_len A
        have eB := bRows_len Bm
        have c1 : ¬ (Bm.length : Int) < A.length := by omega
        have c2 : ¬ Bm.length < A.length := by omega
        refine evE_intro 3000 D7 rfl ?_
        unfold c7
        simp [evCode, evOps, evOne, evOp, evPur, evEff, evPur.chunks, fillP, AOp.isEff, AO.ev, putP, PV.cells, PV.leaf, getB, getM, mapE, iterE, keyC, mapRows, mfind, eq1, eqL, scal, binP, unP, minP, maxP, foldP, PV.lt, PV.lt.ltL, endP, expoAll, expoG, expo, expo.expoL, frIds, frIds.frIdsL, nodupN, kill, cls, clsFuel, resO, RV.get, loadP, evC_p, evC_s, endS, endT, rowsOf, callP, thinL, unfr, unfr.unfrL, PV.noMem, PV.noMem.noMemL, optI, mapO, norm, trimT, trimB, forget, hasN, blksLt, List.set, softChk, softGo, softRd, effTg, rdP, h8, h9, h22, hab, h11, h12, eA, eB, c1, c2]
        generalize hE : evLoop (evCode (evC Dg) 3000 c7b0) [0, 1, 7, 8, 9, 10] 0 3000 _ = E
        rcases H _ E hE (by simp [evCode, evOps, evOne, evOp, evPur, evEff, evPur.chunks, fillP, AOp.isEff, AO.ev, putP, PV.cells, PV.leaf, getB, getM, mapE, iterE, keyC, mapRows, mfind, eq1, eqL, scal, binP, unP, minP, maxP, foldP, PV.lt, PV.lt.ltL, endP, expoAll, expoG, expo, expo.expoL, frIds, frIds.frIdsL, nodupN, kill, cls, clsFuel, resO, RV.get, loadP, evC_p, evC_s, endS, endT, rowsOf, callP, thinL, unfr, unfr.unfrL, PV.noMem, PV.noMem.noMemL, optI, mapO, norm, trimT, trimB, forget, hasN, blksLt, List.set, softChk, softGo, softRd, effTg, rdP, S7]) with ⟨k, hk, rfl⟩ | ⟨s, _, h⟩
        · have hk2 : k = A.length := by
            rw [hk, List.take_of_length_le (by rw [List.length_map]; omega), hlat]
          subst hk2
          unfold c7b0 c7r0
          simp [evCode, evOps, evOne, evOp, evPur, evEff, evPur.chunks, fillP, AOp.isEff, AO.ev, putP, PV.cells, PV.leaf, getB, getM, mapE, iterE, keyC, mapRows, mfind, eq1, eqL, scal, binP, unP, minP, maxP, foldP, PV.lt, PV.lt.ltL, endP, expoAll, expoG, expo, expo.expoL, frIds, frIds.frIdsL, nodupN, kill, cls, clsFuel, resO, RV.get, loadP, evC_p, evC_s, endS, endT, rowsOf, callP, thinL, unfr, unfr.unfrL, PV.noMem, PV.noMem.noMemL, optI, mapO, norm, trimT, trimB, forget, hasN, blksLt, List.set, softChk, softGo, softRd, effTg, rdP, S7, eA, eB, h9]
        · exact h.elim
    · refine evE_intro 1 D7 rfl ?_
      unfold c7
      simp [evCode, evOps, evOne, evOp, evPur, evEff, evPur.chunks, fillP, AOp.isEff, AO.ev, putP, PV.cells, PV.leaf, getB, getM, mapE, iterE, keyC, mapRows, mfind, eq1, eqL, scal, binP, unP, minP, maxP, foldP, PV.lt, PV.lt.ltL, endP, expoAll, expoG, expo, expo.expoL, frIds, frIds.frIdsL, nodupN, kill, cls, clsFuel, resO, RV.get, loadP, evC_p, evC_s, endS, endT, rowsOf, callP, thinL, unfr, unfr.unfrL, PV.noMem, PV.noMem.noMemL, optI, mapO, norm, trimT, trimB, forget, hasN, blksLt, List.set, softChk, softGo, softRd, effTg, rdP, h8, h9, h22]
theorem law7 (ps : List PV) (h : ArgL Try.prog 12 [22, 3, 3] ps) : evE Dg 7 ps = some (.bool true) := by
  obtain ⟨p, q, r, rfl, h1, h2, h3⟩ := argL3 h
  obtain ⟨l, rfl⟩ := in_timed h1
  obtain ⟨i, rfl, _⟩ := argT_int Try.underlying3 h2
  obtain ⟨j, rfl, _⟩ := argT_int Try.underlying3 h3
  exact f7 l i j
end Go.Proofs.Ytalmhggbdfjalaa
