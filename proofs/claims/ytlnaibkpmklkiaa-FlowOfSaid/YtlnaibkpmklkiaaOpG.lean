/- Open of the reference; FlowOf. -/
import Derived.Test.YtlnaibkpmklkiaaOpF
namespace Go.Proofs.Ytlnaibkpmklkiaa
open Go Go.RowKit
set_option linter.unusedVariables false
set_option linter.unusedSimpArgs false

/-- a number is sent, and neither sent nor received behind -/
def Last (l : List Tm) (x : Int) (i : Nat) : Prop := ∃ t, l[i]? = some t ∧ t.kd = 6 ∧ t.n = x ∧ ∀ (j : Nat) (u : Tm), i < j → l[j]? = some u → u.n = x → u.kd ≠ 6 ∧ u.kd ≠ 7
theorem snoc_get {l : List Tm} {t : Tm} {i : Nat} {u : Tm} (h : (l ++ [t])[i]? = some u) : (i < l.length ∧ l[i]? = some u) ∨ (i = l.length ∧ u = t) := by
  rcases Nat.lt_trichotomy i l.length with hc | hc | hc
  · rw [List.getElem?_append_left hc] at h; exact .inl ⟨hc, h⟩
  · subst hc; simp at h; exact .inr ⟨rfl, h.symm⟩
  · rw [List.getElem?_eq_none (by simp; omega)] at h; cases h
theorem Last_snoc (l : List Tm) (t : Tm) (x : Int) : (∃ i, Last (l ++ [t]) x i) ↔ (if t.n = x ∧ t.kd = 6 then True else if t.n = x ∧ t.kd = 7 then False else ∃ i, Last l x i) := by
  have hlt : ∀ {i : Nat} {u : Tm}, l[i]? = some u → i < l.length := fun h => (List.getElem?_eq_some_iff.1 h).1
  constructor
  · rintro ⟨i, u, h1, h2, h3, h4⟩
    split
    · trivial
    · rename_i hn6
      rcases snoc_get h1 with ⟨a, b⟩ | ⟨a, rfl⟩
      · split
        · rename_i h7
          have := h4 l.length t a (by simp) h7.1
          exact this.2 h7.2
        · exact ⟨i, u, b, h2, h3, fun j v hj hv hvx => h4 j v hj (by rw [List.getElem?_append_left (hlt hv)]; exact hv) hvx⟩
      · exact absurd ⟨h3, h2⟩ hn6
  · intro h
    by_cases h6 : t.n = x ∧ t.kd = 6
    · refine ⟨l.length, t, by simp, h6.2, h6.1, fun j u hj hu _ => ?_⟩
      rw [List.getElem?_eq_none (by simp; omega)] at hu; cases hu
    · rw [if_neg h6] at h
      by_cases h7 : t.n = x ∧ t.kd = 7
      · rw [if_pos h7] at h; exact h.elim
      · rw [if_neg h7] at h
        obtain ⟨i, u, h1, h2, h3, h4⟩ := h
        refine ⟨i, u, by rw [List.getElem?_append_left (hlt h1)]; exact h1, h2, h3, fun j v hj hv hvx => ?_⟩
        rcases snoc_get hv with ⟨a, b⟩ | ⟨a, rfl⟩
        · exact h4 j v hj b hvx
        · exact ⟨fun e => h6 ⟨hvx, e⟩, fun e => h7 ⟨hvx, e⟩⟩
theorem opens_snoc (l : List Tm) (t : Tm) : opens (l ++ [t]) = opStep (opens l) t := by simp [opens]
theorem snoc_ind {P : List Tm → Prop} (h0 : P []) (hs : ∀ l t, P l → P (l ++ [t])) (l : List Tm) : P l := by
  have : ∀ n, ∀ l : List Tm, l.length = n → P l := by
    intro n
    induction n with
    | zero => intro l hl; rw [List.eq_nil_of_length_eq_zero hl]; exact h0
    | succ n ih =>
      intro l hl
      have hne : l ≠ [] := fun e => by subst e; simp at hl
      rw [← List.dropLast_concat_getLast hne]
      exact hs _ _ (ih _ (by simp; omega))
  exact this _ l rfl
theorem opens_nodup (l : List Tm) : (opens l).Nodup := by
  refine snoc_ind (P := fun l => (opens l).Nodup) (by simp [opens]) (fun l t ih => ?_) l
  rw [opens_snoc]
  unfold opStep
  split
  · split
    · exact ih
    · rename_i hn
      rw [List.nodup_append]
      refine ⟨ih, by simp, fun a ha b hb => ?_⟩
      simp at hb
      subst hb
      rintro rfl
      exact hn ha
  · split
    · exact ih.erase _
    · exact ih
theorem opens_mem (l : List Tm) (x : Int) : x ∈ opens l ↔ ∃ i, Last l x i := by
  refine snoc_ind (P := fun l => x ∈ opens l ↔ ∃ i, Last l x i) (by simp [opens, Last]) (fun l t ih => ?_) l
  rw [opens_snoc, Last_snoc, ← ih]
  have he := (opens_nodup l).mem_erase_iff (a := x) (b := t.n)
  unfold opStep
  by_cases hx : t.n = x
  · subst hx
    by_cases h6 : t.kd = 6
    · by_cases hm : t.n ∈ opens l <;> simp [h6, hm]
    · by_cases h7 : t.kd = 7
      · simp [h7, he]
      · simp [h6, h7]
  · have hx' : ¬ x = t.n := fun e => hx e.symm
    by_cases h6 : t.kd = 6
    · by_cases hm : t.n ∈ opens l <;> simp [h6, hm, hx, hx']
    · by_cases h7 : t.kd = 7
      · simp [h7, he, hx, hx']
      · simp [h6, h7, hx]

/-- lastI: the last sending -/
theorem lastI_spec (l : List Tm) (x : Int) : ∀ k i, lastI l k x = some i ↔ i < k ∧ (∃ t, l[i]? = some t ∧ t.kd = 6 ∧ t.n = x) ∧ ∀ (j : Nat) (u : Tm), i < j → j < k → l[j]? = some u → ¬ (u.kd = 6 ∧ u.n = x)
  | 0, i => by simp [lastI]
  | k + 1, i => by
    have ih := lastI_spec l x k i
    have up : (¬ ∃ t, l[k]? = some t ∧ t.kd = 6 ∧ t.n = x) → (lastI l k x = some i ↔ i < k + 1 ∧ (∃ t, l[i]? = some t ∧ t.kd = 6 ∧ t.n = x) ∧ ∀ (j : Nat) (u : Tm), i < j → j < k + 1 → l[j]? = some u → ¬ (u.kd = 6 ∧ u.n = x)) := by
      intro hk
      rw [ih]
      constructor
      · rintro ⟨a, b, c⟩
        refine ⟨by omega, b, fun j u h1 h2 h3 h4 => ?_⟩
        by_cases e : j = k
        · subst e; exact hk ⟨u, h3, h4⟩
        · exact c j u h1 (by omega) h3 h4
      · rintro ⟨a, b, c⟩
        refine ⟨?_, b, fun j u h1 h2 h3 h4 => c j u h1 (by omega) h3 h4⟩
        by_cases e : i = k
        · subst e; exact absurd b hk
        · omega
    simp only [lastI]
    split
    · rename_i t ht
      split
      · rename_i h6
        constructor
        · intro h
          cases h
          exact ⟨by omega, ⟨t, ht, h6⟩, fun j u h1 h2 _ _ => by omega⟩
        · rintro ⟨a, b, c⟩
          by_cases e : i = k
          · rw [e]
          · exact absurd h6 (c k t (by omega) (by omega) ht)
      · rename_i h6
        exact up (fun ⟨t', h1, h2⟩ => h6 (by rw [ht] at h1; cases h1; exact h2))
    · rename_i ht
      exact up (fun ⟨t', h1, h2⟩ => by rw [ht] at h1; cases h1)

/-- received behind a place -/
def rcv (l : List Tm) (i : Nat) (x : Int) : Bool := (l.drop (i + 1)).any fun u => u.kd == 7 && u.n == x
theorem rcv_false {l : List Tm} {i : Nat} {x : Int} : rcv l i x = false ↔ ∀ (j : Nat) (u : Tm), i < j → l[j]? = some u → u.n = x → u.kd ≠ 7 := by
  unfold rcv
  rw [List.any_eq_false]
  constructor
  · intro h j u hj hu hx h7
    refine h u ?_ (by simp [h7, hx])
    rw [List.mem_iff_getElem?]
    exact ⟨j - (i + 1), by rw [List.getElem?_drop, show i + 1 + (j - (i + 1)) = j by omega]; exact hu⟩
  · intro h u hu
    obtain ⟨d, hd⟩ := List.mem_iff_getElem?.1 hu
    rw [List.getElem?_drop] at hd
    have := h (i + 1 + d) u (by omega) hd
    simp only [Bool.and_eq_true, beq_iff_eq, not_and]
    exact fun h7 hx => this hx h7
theorem Last_iff {l : List Tm} {x : Int} {i : Nat} : Last l x i ↔ lastI l l.length x = some i ∧ rcv l i x = false := by
  rw [lastI_spec, rcv_false]
  constructor
  · rintro ⟨t, h1, h2, h3, h4⟩
    exact ⟨⟨(List.getElem?_eq_some_iff.1 h1).1, ⟨t, h1, h2, h3⟩, fun j u hj _ hu h => (h4 j u hj hu h.2).1 h.1⟩, fun j u hj hu hx => (h4 j u hj hu hx).2⟩
  · rintro ⟨⟨h1, ⟨t, h2, h3, h4⟩, h5⟩, h6⟩
    exact ⟨t, h2, h3, h4, fun j u hj hu hx => ⟨fun e => h5 j u hj (List.getElem?_eq_some_iff.1 hu).1 hu ⟨e, hx⟩, h6 j u hj hu hx⟩⟩

def S27 (l : List Tm) (x : Int) (i k : Nat) : St := ⟨[.sl false 10 (tRows l), .top, .int .i64 x, .top, .top, .top, .top, .int .i64 ((i + 1 + k : Nat) : Int)] ++ List.replicate 25 .top, []⟩
set_option maxRecDepth 100000 in
theorem f27 (l : List Tm) (i : Nat) (x : Int) (hl : l.length ≤ 2000) (hi : i < l.length) : evE Dg 27 [.sl false 10 (tRows l), .int .i64 i, .int .i64 x] = some (.bool (rcv l i x)) := by
  refine evE_intro 3000 D27 rfl ?_
  unfold c27
  have eL := tRows_len l
  have w0 : IntKind.i64.wrap ((i : Int) + 1) = ((i + 1 : Nat) : Int) := by rw [wrap_i64 _ (by omega) (by omega)]; omega
  simp [evCode, evOps, evOne, evOp, evPur, evEff, evPur.chunks, fillP, AOp.isEff, AO.ev, putP, PV.cells, PV.leaf, getB, getM, mapE, iterE, keyC, mapRows, mfind, eq1, eqL, scal, binP, unP, minP, maxP, foldP, PV.lt, PV.lt.ltL, endP, expoAll, expoG, expo, expo.expoL, frIds, frIds.frIdsL, nodupN, kill, cls, clsFuel, resO, RV.get, loadP, evC_p, evC_s, endS, endT, rowsOf, callP, thinL, unfr, unfr.unfrL, PV.noMem, PV.noMem.noMemL, optI, mapO, norm, trimT, trimB, forget, hasN, blksLt, List.set, softChk, softGo, softRd, effTg, rdP, eL, w0]
  generalize hE : evLoop (evCode (evC Dg) 3000 c27b0) [0, 2, 7] 0 3000 _ = E
  have H := loop_find (body := evCode (evC Dg) 3000 c27b0) (keep := [0, 2, 7]) (n0 := 0) (fuel := 3000) (l.drop (i + 1)) (S27 l x i) (fun u => u.kd == 7 && u.n == x) (fun _ s => s.sl.getD 6 .top = .bool true) ?_ ?_ ?_ (by rw [List.length_drop]; omega) _ E hE (by simp [evCode, evOps, evOne, evOp, evPur, evEff, evPur.chunks, fillP, AOp.isEff, AO.ev, putP, PV.cells, PV.leaf, getB, getM, mapE, iterE, keyC, mapRows, mfind, eq1, eqL, scal, binP, unP, minP, maxP, foldP, PV.lt, PV.lt.ltL, endP, expoAll, expoG, expo, expo.expoL, frIds, frIds.frIdsL, nodupN, kill, cls, clsFuel, resO, RV.get, loadP, evC_p, evC_s, endS, endT, rowsOf, callP, thinL, unfr, unfr.unfrL, PV.noMem, PV.noMem.noMemL, optI, mapO, norm, trimT, trimB, forget, hasN, blksLt, List.set, softChk, softGo, softRd, effTg, rdP, S27])
  · rcases H with ⟨h0, rfl⟩ | ⟨k, h0, s, rfl, hR⟩
    · have hr : rcv l i x = false := by
        unfold rcv
        rw [List.any_eq_false]
        exact fun u hu => by have := List.findIdx?_eq_none_iff.1 h0 u hu; simp [this]
      have c1 : ¬ (((i + 1 + (l.length - (i + 1)) : Nat) : Int) < l.length) := by omega
      rw [hr, List.length_drop]
      unfold S27
      generalize i + 1 + (l.length - (i + 1)) = q at c1
      unfold c27b0
      simp [evCode, evOps, evOne, evOp, evPur, evEff, evPur.chunks, fillP, AOp.isEff, AO.ev, putP, PV.cells, PV.leaf, getB, getM, mapE, iterE, keyC, mapRows, mfind, eq1, eqL, scal, binP, unP, minP, maxP, foldP, PV.lt, PV.lt.ltL, endP, expoAll, expoG, expo, expo.expoL, frIds, frIds.frIdsL, nodupN, kill, cls, clsFuel, resO, RV.get, loadP, evC_p, evC_s, endS, endT, rowsOf, callP, thinL, unfr, unfr.unfrL, PV.noMem, PV.noMem.noMemL, optI, mapO, norm, trimT, trimB, forget, hasN, blksLt, List.set, softChk, softGo, softRd, effTg, rdP, eL, c1]
    · obtain ⟨sl, bl⟩ := s
      have hR' : sl[6]?.getD PV.top = .bool true := by rw [← List.getD_eq_getElem?_getD]; exact hR
      have hr : rcv l i x = true := by
        unfold rcv
        rw [List.any_eq_true]
        obtain ⟨h1, h2, _⟩ := List.findIdx?_eq_some_iff_getElem.1 h0
        exact ⟨_, List.getElem_mem h1, h2⟩
      rw [hr]
      simp [evCode, evOps, evOne, evOp, evPur, evEff, evPur.chunks, fillP, AOp.isEff, AO.ev, putP, PV.cells, PV.leaf, getB, getM, mapE, iterE, keyC, mapRows, mfind, eq1, eqL, scal, binP, unP, minP, maxP, foldP, PV.lt, PV.lt.ltL, endP, expoAll, expoG, expo, expo.expoL, frIds, frIds.frIdsL, nodupN, kill, cls, clsFuel, resO, RV.get, loadP, evC_p, evC_s, endS, endT, rowsOf, callP, thinL, unfr, unfr.unfrL, PV.noMem, PV.noMem.noMemL, optI, mapO, norm, trimT, trimB, forget, hasN, blksLt, List.set, softChk, softGo, softRd, effTg, rdP, hR']
  · intro k u hu hk hq
    rw [List.getElem?_drop] at hu
    have hlt : i + 1 + k < l.length := (List.getElem?_eq_some_iff.1 hu).1
    have eg := tRows_get hu
    have eg' := tRows_getE hu
    have e1 : i + 1 + (k + 1) = i + 1 + k + 1 := by omega
    simp only [S27, e1]
    generalize i + 1 + k = q at *
    have hlt' : (q : Int) < l.length := by omega
    have w1 : IntKind.i64.wrap ((q : Int) + 1) = ((q + 1 : Nat) : Int) := by rw [wrap_i64 _ (by omega) (by omega)]; omega
    by_cases h7 : u.kd = 7
    · have hx : ¬ u.n = x := fun e => by simp [h7, e] at hq
      unfold c27b0
      simp [evCode, evOps, evOne, evOp, evPur, evEff, evPur.chunks, fillP, AOp.isEff, AO.ev, putP, PV.cells, PV.leaf, getB, getM, mapE, iterE, keyC, mapRows, mfind, eq1, eqL, scal, binP, unP, minP, maxP, foldP, PV.lt, PV.lt.ltL, endP, expoAll, expoG, expo, expo.expoL, frIds, frIds.frIdsL, nodupN, kill, cls, clsFuel, resO, RV.get, loadP, evC_p, evC_s, endS, endT, rowsOf, callP, thinL, unfr, unfr.unfrL, PV.noMem, PV.noMem.noMemL, optI, mapO, norm, trimT, trimB, forget, hasN, blksLt, List.set, softChk, softGo, softRd, effTg, rdP, eL, eg, eg', hlt, hlt', w1, h7, hx, tRow]
    · unfold c27b0
      simp [evCode, evOps, evOne, evOp, evPur, evEff, evPur.chunks, fillP, AOp.isEff, AO.ev, putP, PV.cells, PV.leaf, getB, getM, mapE, iterE, keyC, mapRows, mfind, eq1, eqL, scal, binP, unP, minP, maxP, foldP, PV.lt, PV.lt.ltL, endP, expoAll, expoG, expo, expo.expoL, frIds, frIds.frIdsL, nodupN, kill, cls, clsFuel, resO, RV.get, loadP, evC_p, evC_s, endS, endT, rowsOf, callP, thinL, unfr, unfr.unfrL, PV.noMem, PV.noMem.noMemL, optI, mapO, norm, trimT, trimB, forget, hasN, blksLt, List.set, softChk, softGo, softRd, effTg, rdP, eL, eg, eg', hlt, hlt', w1, h7, tRow]
  · intro k u hu hk hq
    rw [List.getElem?_drop] at hu
    have hlt : i + 1 + k < l.length := (List.getElem?_eq_some_iff.1 hu).1
    have eg := tRows_get hu
    have eg' := tRows_getE hu
    simp only [S27]
    generalize i + 1 + k = q at *
    have hlt' : (q : Int) < l.length := by omega
    simp only [Bool.and_eq_true, beq_iff_eq] at hq
    obtain ⟨h7, hx⟩ := hq
    unfold c27b0
    simp [evCode, evOps, evOne, evOp, evPur, evEff, evPur.chunks, fillP, AOp.isEff, AO.ev, putP, PV.cells, PV.leaf, getB, getM, mapE, iterE, keyC, mapRows, mfind, eq1, eqL, scal, binP, unP, minP, maxP, foldP, PV.lt, PV.lt.ltL, endP, expoAll, expoG, expo, expo.expoL, frIds, frIds.frIdsL, nodupN, kill, cls, clsFuel, resO, RV.get, loadP, evC_p, evC_s, endS, endT, rowsOf, callP, thinL, unfr, unfr.unfrL, PV.noMem, PV.noMem.noMemL, optI, mapO, norm, trimT, trimB, forget, hasN, blksLt, List.set, softChk, softGo, softRd, effTg, rdP, eL, eg, eg', hlt, hlt', h7, hx, tRow]
  · intro s
    have c1 : ¬ (((i + 1 + (l.length - (i + 1)) : Nat) : Int) < l.length) := by omega
    rw [List.length_drop]
    unfold S27
    generalize i + 1 + (l.length - (i + 1)) = q at c1
    unfold c27b0
    simp [evCode, evOps, evOne, evOp, evPur, evEff, evPur.chunks, fillP, AOp.isEff, AO.ev, putP, PV.cells, PV.leaf, getB, getM, mapE, iterE, keyC, mapRows, mfind, eq1, eqL, scal, binP, unP, minP, maxP, foldP, PV.lt, PV.lt.ltL, endP, expoAll, expoG, expo, expo.expoL, frIds, frIds.frIdsL, nodupN, kill, cls, clsFuel, resO, RV.get, loadP, evC_p, evC_s, endS, endT, rowsOf, callP, thinL, unfr, unfr.unfrL, PV.noMem, PV.noMem.noMemL, optI, mapO, norm, trimT, trimB, forget, hasN, blksLt, List.set, softChk, softGo, softRd, effTg, rdP, eL, c1]
end Go.Proofs.Ytlnaibkpmklkiaa
