/- itree: ItreeVisits. -/
import Derived.Test.YtkodjmlhmpokoaaItV
namespace Go.Proofs.Ytkodjmlhmpokoaa
open Go Go.RowKit
set_option linter.unusedVariables false
set_option linter.unusedSimpArgs false
set_option maxHeartbeats 8000000

/-- how many levels -/
def lev : Nat → Nat → Nat
  | 0, _ => 0
  | f + 1, n => if n = 0 then 0 else 1 + lev f (n / 2)
theorem lev_fuel : ∀ f g n, n ≤ f → n ≤ g → lev f n = lev g n
  | 0, 0, n, _, _ => rfl
  | 0, g + 1, n, h, _ => by
    have : n = 0 := by omega
    subst this
    simp [lev]
  | f + 1, 0, n, _, h => by
    have : n = 0 := by omega
    subst this
    simp [lev]
  | f + 1, g + 1, n, h1, h2 => by
    unfold lev
    split
    · rfl
    · rw [lev_fuel f g (n / 2) (by omega) (by omega)]
def levN (n : Nat) : Nat := lev n n
theorem levN_zero : levN 0 = 0 := rfl
theorem levN_pos {n : Nat} (h : 0 < n) : levN n = 1 + levN (n / 2) := by
  unfold levN
  cases n with
  | zero => omega
  | succ n =>
    rw [lev, if_neg (by omega), lev_fuel n ((n + 1) / 2) ((n + 1) / 2) (by omega) (Nat.le_refl _)]
theorem levN_le : ∀ n, levN n ≤ n := fun n => by
  induction n using Nat.strongRecOn with
  | _ n ih =>
    by_cases h : n = 0
    · subst h; exact Nat.le_refl _
    · rw [levN_pos (by omega)]
      have := ih (n / 2) (by omega)
      omega
/-- all spans begin after -/
theorem exv_after (l : List Sp) (s : Sp) (h : ∀ u ∈ l, s.2 ≤ u.1) : ∀ f lo hi, hi - lo ≤ f → hi ≤ l.length → exv l s f lo hi ≤ levN (hi - lo)
  | 0, lo, hi, hf, _ => Nat.zero_le _
  | f + 1, lo, hi, hf, hn => by
    unfold exv
    split
    · exact Nat.zero_le _
    · rename_i hc
      have hlo : lo < hi := by omega
      have h1 := exv_after l s h f lo ((lo + hi) / 2) (by omega) (by omega)
      obtain ⟨_, hO, hs, _⟩ := spA_pos l ((lo + hi) / 2) (by omega)
      have h2 := h _ (List.mem_of_getElem? hs)
      rw [if_neg (by omega), levN_pos (by omega), show (hi - lo) / 2 = (lo + hi) / 2 - lo by omega]
      omega
/-- all spans end before -/
theorem exv_before (l : List Sp) (s : Sp) (h : ∀ u ∈ l, u.2 ≤ s.1) : exv l s l.length 0 l.length = 0 := by
  by_cases h0 : l.length = 0
  · rw [h0]; rfl
  · have hA := agr_top l
    obtain ⟨hf, hl, m, hm, hE⟩ := hA
    have hr := hE ((0 + l.length) / 2) (by omega) (by omega)
    rw [grt_root _ l.length 0 l.length m (by omega) hf hm] at hr
    obtain ⟨_, p, p1, p2, p3⟩ := vAt_max (endN l (ordP l)) 0 (l.length - 0)
    obtain ⟨_, hO, hs, he⟩ := spA_pos l p (by omega)
    have h2 := h _ (List.mem_of_getElem? hs)
    rw [p3, he] at hr
    obtain ⟨n, hn⟩ : ∃ n, l.length = n + 1 := ⟨l.length - 1, by omega⟩
    have : exv l s (n + 1) 0 l.length = 0 := by
      unfold exv
      rw [if_pos (.inr (by omega))]
    rw [← hn] at this
    exact this
def S7a (x : Bool) (l : List Sp) (s : Sp) (q : Nat × Nat) : St := ⟨[eS x l, .top, .top, .ptr 0 1 0 0, .top, .bool true, .bool true, .int .i64 (q.1 : Int), .int .i64 (q.2 : Int)] ++ List.replicate 71 .top, [bxS s]⟩
def R7a (x : Bool) (l : List Sp) (s : Sp) (n : Nat) (o : Out) : Prop := ∃ z1 z2, o = .exit 0 ⟨[eS x l, .top, .top, .ptr 0 1 0 0, .top, .bool true, .bool true, .int .i64 (n : Int), .int .i64 0] ++ List.replicate 8 .top ++ [z1, z2] ++ List.replicate 61 .top, [bxS s]⟩
set_option maxRecDepth 100000 in
theorem loop7a (x : Bool) (l : List Sp) (s : Sp) (fu : Nat) (hl : l.length ≤ 200) : ∀ s0 E, evLoop (evCode (evC Dg) fu c7b1) [0, 3, 5, 6, 7, 8] 1 (l.length + 1) s0 = E → norm [0, 3, 5, 6, 7, 8] 1 s0 = S7a x l s (0, l.length) → ∃ out, E = some out ∧ R7a x l s (levN l.length) out := by
  intro s0 E hE h0
  have hb0 : ∀ b, Nat.blt b 0 = false := fun b => by cases b <;> rfl
  have H := loop_while (body := evCode (evC Dg) fu c7b1) (keep := [0, 3, 5, 6, 7, 8]) (n0 := 1) (fuel := l.length + 1) (S7a x l s) (fun q => q.2) (fun q => q.1 + levN q.2 = levN l.length ∧ q.2 ≤ l.length) (R7a x l s (levN l.length))
    (by
      rintro ⟨v, n⟩ ⟨h1, h2⟩
      simp only at h1 h2
      have hv := levN_le l.length
      by_cases hn : n = 0
      · subst hn
        right
        rw [levN_zero, Nat.add_zero] at h1
        subst h1
        unfold c7b1
        simp [evCode, evOps, evOne, evOp, evPur, evEff, evPur.chunks, fillP, AOp.isEff, AO.ev, putP, PV.cells, PV.leaf, getB, getM, mapE, iterE, keyC, mapRows, mfind, eq1, eqL, scal, binP, unP, minP, maxP, foldP, PV.lt, PV.lt.ltL, endP, expoAll, expoG, expo, expo.expoL, frIds, frIds.frIdsL, nodupN, kill, cls, clsFuel, resO, RV.get, loadP, evC_p, evC_s, endS, endT, rowsOf, callP, thinL, unfr, unfr.unfrL, PV.noMem, PV.noMem.noMemL, optI, mapO, norm, trimT, trimB, forget, hasN, blksLt, List.set, softChk, softGo, softRd, effTg, rdP, S7a, R7a, bxS, eS]
      · left
        refine ⟨(v + 1, n / 2), ?_⟩
        have J : (v + 1, n / 2).1 + levN (v + 1, n / 2).2 = levN l.length ∧ (v + 1, n / 2).2 ≤ l.length := ⟨by rw [levN_pos (by omega)] at h1; simp only; omega, by simp only; omega⟩
        have K : (v + 1, n / 2).2 < n := by simp only; omega
        refine (fun ⟨s', q1, q2⟩ => ⟨s', q1, q2, J, K⟩ : (∃ s', _ ∧ _) → _) ?_
        have w1 := wrap_i64 ((v : Int) + 1) (by omega) (by omega)
        have w2 : IntKind.i64.wrap ((n : Int) / 2) = (n : Int) / 2 := wrap_i64 _ (by omega) (by omega)
        have hr : Int.tdiv (n : Int) 2 = (n : Int) / 2 := by rw [Int.tdiv_eq_ediv_of_nonneg (by omega)]
        have c1 : (0 : Int) < n := by omega
        have c1' : 0 < n := by omega
        unfold c7b1
        simp [evCode, evOps, evOne, evOp, evPur, evEff, evPur.chunks, fillP, AOp.isEff, AO.ev, putP, PV.cells, PV.leaf, getB, getM, mapE, iterE, keyC, mapRows, mfind, eq1, eqL, scal, binP, unP, minP, maxP, foldP, PV.lt, PV.lt.ltL, endP, expoAll, expoG, expo, expo.expoL, frIds, frIds.frIdsL, nodupN, kill, cls, clsFuel, resO, RV.get, loadP, evC_p, evC_s, endS, endT, rowsOf, callP, thinL, unfr, unfr.unfrL, PV.noMem, PV.noMem.noMemL, optI, mapO, norm, trimT, trimB, forget, hasN, blksLt, List.set, softChk, softGo, softRd, effTg, rdP, S7a, bxS, eS, w1, w2, hr, c1, c1'])
    (0, l.length) ⟨by simp, Nat.le_refl _⟩ (Nat.lt_succ_self _) s0 E hE h0
  exact H
def aftB (l : List Sp) (s : Sp) (k : Nat) : Bool := (l.take k).all fun u => decide (s.2 ≤ u.1)
def bfrB (l : List Sp) (s : Sp) (k : Nat) : Bool := (l.take k).all fun u => decide (u.2 ≤ s.1)
theorem aftB_succ {l : List Sp} {s : Sp} {k : Nat} {u : Sp} (h : l[k]? = some u) : aftB l s (k + 1) = (aftB l s k && decide (s.2 ≤ u.1)) := by
  unfold aftB
  rw [List.take_add_one, h]
  simp
theorem bfrB_succ {l : List Sp} {s : Sp} {k : Nat} {u : Sp} (h : l[k]? = some u) : bfrB l s (k + 1) = (bfrB l s k && decide (u.2 ≤ s.1)) := by
  unfold bfrB
  rw [List.take_add_one, h]
  simp
def S7b (x : Bool) (l : List Sp) (s : Sp) (v : Nat) (k : Nat) : St := ⟨[eS x l, .top, .top, .ptr 0 1 0 0, .top, .bool (aftB l s k), .bool (bfrB l s k), .int .i64 (v : Int), .top, .int .i64 (k : Int)] ++ List.replicate 70 .top, [bxS s]⟩
set_option maxRecDepth 100000 in
theorem f7_few (x : Bool) (l : List Sp) (s : Sp) (hl : l.length ≤ 200) : evE Dg 7 [eS x l, vS s] = some (.bool true) := by
  have h9 := f9 x l (by omega) (ordP_len l) (ordP_lt l)
  rw [nR_iR] at h9
  change _ = some (PV.agg [.fr 1 (iR (ordI l)), .fr 1 (iR (mostP l))]) at h9
  have h19 := fun a b => f19 x a b l (ordI l) (mostP l) s (by omega) (by rw [ordI_len]; omega) (by rw [mostP_len]; omega)
  simp only [decide_true, Bool.and_self, if_true] at h19
  have h8 := f8
  have e1 := spRows_len l
  have e2 := iR_len
  have eO := ordI_len l
  have eM := mostP_len l
  have hb0 : ∀ b, Nat.blt b 0 = false := fun b => by cases b <;> rfl
  have hA := loop7a x l s (l.length + 1) hl
  have H := loop_inv (body := evCode (evC Dg) (l.length + 1) c7b0) (keep := [0, 3, 5, 6, 7, 9]) (n0 := 1) (fuel := l.length + 1) l (fun k (_ : Unit) => S7b x l s (levN l.length) k) (fun _ _ => True) (fun _ => False)
    (by
      rintro k u _ hu hk _
      left
      refine ⟨(), ?_⟩
      refine (fun ⟨s', q1, q2⟩ => ⟨s', q1, q2, trivial⟩ : (∃ s', _ ∧ _) → _) ?_
      have r1 := spRows_get hu
      have g1 := spRows_got hu
      have hk' : (k : Int) < l.length := by omega
      have w1 := wrap_i64 ((k : Int) + 1) (by omega) (by omega)
      have a1 := aftB_succ (s := s) hu
      have b1 := bfrB_succ (s := s) hu
      unfold c7b0
      cases ha : aftB l s k <;> cases hb : bfrB l s k <;> rw [ha] at a1 <;> rw [hb] at b1 <;> simp only [Bool.false_and, Bool.true_and] at a1 b1 <;> simp [evCode, evOps, evOne, evOp, evPur, evEff, evPur.chunks, fillP, AOp.isEff, AO.ev, putP, PV.cells, PV.leaf, getB, getM, mapE, iterE, keyC, mapRows, mfind, eq1, eqL, scal, binP, unP, minP, maxP, foldP, PV.lt, PV.lt.ltL, endP, expoAll, expoG, expo, expo.expoL, frIds, frIds.frIdsL, nodupN, kill, cls, clsFuel, resO, RV.get, loadP, evC_p, evC_s, endS, endT, rowsOf, callP, thinL, unfr, unfr.unfrL, PV.noMem, PV.noMem.noMemL, optI, mapO, norm, trimT, trimB, forget, hasN, blksLt, List.set, softChk, softGo, softRd, effTg, rdP, S7b, bxS, eS, ha, hb, a1, b1, e1, r1, g1, hk', hk, w1])
    (by
      rintro _ _ s'
      unfold c7b0
      simp [evCode, evOps, evOne, evOp, evPur, evEff, evPur.chunks, fillP, AOp.isEff, AO.ev, putP, PV.cells, PV.leaf, getB, getM, mapE, iterE, keyC, mapRows, mfind, eq1, eqL, scal, binP, unP, minP, maxP, foldP, PV.lt, PV.lt.ltL, endP, expoAll, expoG, expo, expo.expoL, frIds, frIds.frIdsL, nodupN, kill, cls, clsFuel, resO, RV.get, loadP, evC_p, evC_s, endS, endT, rowsOf, callP, thinL, unfr, unfr.unfrL, PV.noMem, PV.noMem.noMemL, optI, mapO, norm, trimT, trimB, forget, hasN, blksLt, List.set, softChk, softGo, softRd, effTg, rdP, S7b, eS, e1])
    (by omega) () trivial
  have hl' : ¬ (200 : Int) < l.length := by omega
  have z1 : aftB l s 0 = true := rfl
  have z2 : bfrB l s 0 = true := rfl
  have v1 := exv_le l s l.length 0 l.length (by omega)
  have hAft : aftB l s l.length = true → exv l s l.length 0 l.length ≤ levN l.length := fun h => by
    unfold aftB at h
    rw [List.take_length, List.all_eq_true] at h
    simpa using exv_after l s (fun u hu => by simpa using h u hu) l.length 0 l.length (by omega) (Nat.le_refl _)
  have hBfr : bfrB l s l.length = true → exv l s l.length 0 l.length = 0 := fun h => by
    unfold bfrB at h
    rw [List.take_length, List.all_eq_true] at h
    exact exv_before l s (fun u hu => by simpa using h u hu)
  have im : ∀ rows, impB (PV.fr 1 rows) = [⟨rows.length, 1, true, rows⟩] := fun _ => rfl
  have iv : ∀ k rows, impV k (PV.fr 1 rows) = .own k rows.length 0 rows.length := fun _ _ => rfl
  simp only [eS, eI, vS] at h9 h19
  generalize exv l s l.length 0 l.length = n at *
  refine evE_intro (l.length + 1) D7 rfl ?_
  unfold c7
  simp [evCode, evOps, evOne, evOp, evPur, evEff, evPur.chunks, fillP, AOp.isEff, AO.ev, putP, PV.cells, PV.leaf, getB, getM, mapE, iterE, keyC, mapRows, mfind, eq1, eqL, scal, binP, unP, minP, maxP, foldP, PV.lt, PV.lt.ltL, endP, expoAll, expoG, expo, expo.expoL, frIds, frIds.frIdsL, nodupN, kill, cls, clsFuel, resO, RV.get, loadP, evC_p, evC_s, endS, endT, rowsOf, callP, thinL, unfr, unfr.unfrL, PV.noMem, PV.noMem.noMemL, optI, mapO, norm, trimT, trimB, forget, hasN, blksLt, List.set, softChk, softGo, softRd, effTg, rdP, eS, vS, e1, hl']
  generalize hE : evLoop _ _ _ _ _ = E
  obtain ⟨out, rfl, y1, y2, rfl⟩ := hA _ E hE (by simp [evCode, evOps, evOne, evOp, evPur, evEff, evPur.chunks, fillP, AOp.isEff, AO.ev, putP, PV.cells, PV.leaf, getB, getM, mapE, iterE, keyC, mapRows, mfind, eq1, eqL, scal, binP, unP, minP, maxP, foldP, PV.lt, PV.lt.ltL, endP, expoAll, expoG, expo, expo.expoL, frIds, frIds.frIdsL, nodupN, kill, cls, clsFuel, resO, RV.get, loadP, evC_p, evC_s, endS, endT, rowsOf, callP, thinL, unfr, unfr.unfrL, PV.noMem, PV.noMem.noMemL, optI, mapO, norm, trimT, trimB, forget, hasN, blksLt, List.set, softChk, softGo, softRd, effTg, rdP, S7a, bxS, eS])
  unfold c7r1
  simp [evCode, evOps, evOne, evOp, evPur, evEff, evPur.chunks, fillP, AOp.isEff, AO.ev, putP, PV.cells, PV.leaf, getB, getM, mapE, iterE, keyC, mapRows, mfind, eq1, eqL, scal, binP, unP, minP, maxP, foldP, PV.lt, PV.lt.ltL, endP, expoAll, expoG, expo, expo.expoL, frIds, frIds.frIdsL, nodupN, kill, cls, clsFuel, resO, RV.get, loadP, evC_p, evC_s, endS, endT, rowsOf, callP, thinL, unfr, unfr.unfrL, PV.noMem, PV.noMem.noMemL, optI, mapO, norm, trimT, trimB, forget, hasN, blksLt, List.set, softChk, softGo, softRd, effTg, rdP, eS, vS, e1, hl']
  generalize hE : evLoop _ _ _ _ _ = E
  rcases H _ _ hE (by simp [evCode, evOps, evOne, evOp, evPur, evEff, evPur.chunks, fillP, AOp.isEff, AO.ev, putP, PV.cells, PV.leaf, getB, getM, mapE, iterE, keyC, mapRows, mfind, eq1, eqL, scal, binP, unP, minP, maxP, foldP, PV.lt, PV.lt.ltL, endP, expoAll, expoG, expo, expo.expoL, frIds, frIds.frIdsL, nodupN, kill, cls, clsFuel, resO, RV.get, loadP, evC_p, evC_s, endS, endT, rowsOf, callP, thinL, unfr, unfr.unfrL, PV.noMem, PV.noMem.noMemL, optI, mapO, norm, trimT, trimB, forget, hasN, blksLt, List.set, softChk, softGo, softRd, effTg, rdP, S7b, bxS, eS, z1, z2]) with ⟨_, _, q2⟩ | ⟨_, _, q3⟩
  · rw [q2]
    have n1 : ¬ (l.length : Int) < n := by omega
    have n2 : (n : Int) ≤ l.length := by omega
    have n3 : (0 : Int) ≤ n := by omega
    unfold c7b0 c7r0
    cases ha : aftB l s l.length <;> cases hb : bfrB l s l.length
    · simp [evCode, evOps, evOne, evOp, evPur, evEff, evPur.chunks, fillP, AOp.isEff, AO.ev, putP, PV.cells, PV.leaf, getB, getM, mapE, iterE, keyC, mapRows, mfind, eq1, eqL, scal, binP, unP, minP, maxP, foldP, PV.lt, PV.lt.ltL, endP, expoAll, expoG, expo, expo.expoL, frIds, frIds.frIdsL, nodupN, kill, cls, clsFuel, resO, RV.get, loadP, evC_p, evC_s, endS, endT, rowsOf, callP, thinL, unfr, unfr.unfrL, PV.noMem, PV.noMem.noMemL, optI, mapO, norm, trimT, trimB, forget, hasN, blksLt, List.set, softChk, softGo, softRd, effTg, rdP, S7b, bxS, eS, e1, e2, eO, eM, ha, hb, h8, h9, h19, im, iv, hb0, n1, n2, n3]
    · have := hBfr hb
      subst this
      simp [evCode, evOps, evOne, evOp, evPur, evEff, evPur.chunks, fillP, AOp.isEff, AO.ev, putP, PV.cells, PV.leaf, getB, getM, mapE, iterE, keyC, mapRows, mfind, eq1, eqL, scal, binP, unP, minP, maxP, foldP, PV.lt, PV.lt.ltL, endP, expoAll, expoG, expo, expo.expoL, frIds, frIds.frIdsL, nodupN, kill, cls, clsFuel, resO, RV.get, loadP, evC_p, evC_s, endS, endT, rowsOf, callP, thinL, unfr, unfr.unfrL, PV.noMem, PV.noMem.noMemL, optI, mapO, norm, trimT, trimB, forget, hasN, blksLt, List.set, softChk, softGo, softRd, effTg, rdP, S7b, bxS, eS, e1, e2, eO, eM, ha, hb, h8, h9, h19, im, iv, hb0]
    · have n4 : ¬ ((levN l.length : Nat) : Int) < n := by have := hAft ha; omega
      have n5 : n ≤ levN l.length := hAft ha
      simp [evCode, evOps, evOne, evOp, evPur, evEff, evPur.chunks, fillP, AOp.isEff, AO.ev, putP, PV.cells, PV.leaf, getB, getM, mapE, iterE, keyC, mapRows, mfind, eq1, eqL, scal, binP, unP, minP, maxP, foldP, PV.lt, PV.lt.ltL, endP, expoAll, expoG, expo, expo.expoL, frIds, frIds.frIdsL, nodupN, kill, cls, clsFuel, resO, RV.get, loadP, evC_p, evC_s, endS, endT, rowsOf, callP, thinL, unfr, unfr.unfrL, PV.noMem, PV.noMem.noMemL, optI, mapO, norm, trimT, trimB, forget, hasN, blksLt, List.set, softChk, softGo, softRd, effTg, rdP, S7b, bxS, eS, e1, e2, eO, eM, ha, hb, h8, h9, h19, im, iv, hb0, n1, n2, n3, n4, n5]
    · have := hBfr hb
      subst this
      have n4 : ¬ ((levN l.length : Nat) : Int) < 0 := by omega
      simp [evCode, evOps, evOne, evOp, evPur, evEff, evPur.chunks, fillP, AOp.isEff, AO.ev, putP, PV.cells, PV.leaf, getB, getM, mapE, iterE, keyC, mapRows, mfind, eq1, eqL, scal, binP, unP, minP, maxP, foldP, PV.lt, PV.lt.ltL, endP, expoAll, expoG, expo, expo.expoL, frIds, frIds.frIdsL, nodupN, kill, cls, clsFuel, resO, RV.get, loadP, evC_p, evC_s, endS, endT, rowsOf, callP, thinL, unfr, unfr.unfrL, PV.noMem, PV.noMem.noMemL, optI, mapO, norm, trimT, trimB, forget, hasN, blksLt, List.set, softChk, softGo, softRd, effTg, rdP, S7b, bxS, eS, e1, e2, eO, eM, ha, hb, h8, h9, h19, im, iv, hb0, n4]
  · exact q3.elim
theorem f7 (x : Bool) (l : List Sp) (s : Sp) : evE Dg 7 [eS x l, vS s] = some (.bool true) := by
  by_cases h : l.length ≤ 200
  · exact f7_few x l s h
  · have h8 := f8
    have e1 := spRows_len l
    have hl' : (200 : Int) < l.length := by omega
    refine evE_intro 1 D7 rfl ?_
    unfold c7
    simp [evCode, evOps, evOne, evOp, evPur, evEff, evPur.chunks, fillP, AOp.isEff, AO.ev, putP, PV.cells, PV.leaf, getB, getM, mapE, iterE, keyC, mapRows, mfind, eq1, eqL, scal, binP, unP, minP, maxP, foldP, PV.lt, PV.lt.ltL, endP, expoAll, expoG, expo, expo.expoL, frIds, frIds.frIdsL, nodupN, kill, cls, clsFuel, resO, RV.get, loadP, evC_p, evC_s, endS, endT, rowsOf, callP, thinL, unfr, unfr.unfrL, PV.noMem, PV.noMem.noMemL, optI, mapO, norm, trimT, trimB, forget, hasN, blksLt, List.set, softChk, softGo, softRd, effTg, rdP, eS, vS, h8, e1, hl']
theorem law7 (ps : List PV) (h : ArgL Try.prog 12 [22, 32] ps) : evE Dg 7 ps = some (.bool true) := by
  obtain ⟨p, r, rfl, h1, h3⟩ := argL2 h
  obtain ⟨l, rfl⟩ := in_spans h1
  obtain ⟨s, rfl, _, _⟩ := in_span h3
  exact f7 false l s
end Go.Proofs.Ytkodjmlhmpokoaa
