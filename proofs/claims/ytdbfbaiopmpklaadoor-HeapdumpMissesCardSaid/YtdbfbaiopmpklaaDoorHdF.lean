/- heapdump: what a valid heap's references are; the laws. -/
import Derived.Test.YtdbfbaiopmpklaaDoorHdE
import Derived.Test.YtdbfbaiopmpklaaDoorAw
import Derived.Test.YtdbfbaiopmpklaaDoorGc
namespace Go.Proofs.YtdbfbaiopmpklaaDoor
open Go Go.RowKit
set_option linter.unusedVariables false
set_option linter.unusedSimpArgs false
set_option maxHeartbeats 4000000

theorem refE_zero {ids R : List Int} (h : refE ids R = 0) : ∀ (k : Nat) (z : Int), R[k]? = some z → z ∈ ids ∧ prevLe R k z = false := by
  intro k z hz
  have := (firstF_zero R 0).1 h k z hz
  rw [Nat.zero_add] at this
  unfold refF at this
  by_cases hm : z ∈ ids
  · rw [if_pos hm] at this
    refine ⟨hm, ?_⟩
    cases hp : prevLe R k z with
    | false => rfl
    | true => rw [hp] at this; simp at this
  · rw [if_neg hm] at this; cases this
theorem inc_lt {R : List Int} (h : ∀ (k : Nat) (z : Int), R[k]? = some z → prevLe R k z = false) : ∀ (j i : Nat) (x y : Int), R[i]? = some x → R[j]? = some y → i < j → x < y
  | 0, i, x, y, _, _, hij => by omega
  | j + 1, i, x, y, hx, hy, hij => by
    have hj : j < R.length := by have := (List.getElem?_eq_some_iff.1 hy).1; omega
    have hg := List.getElem?_eq_getElem hj
    have hp := h (j + 1) y hy
    simp only [prevLe, hg, decide_eq_false_iff_not] at hp
    by_cases hij2 : i = j
    · subst hij2
      rw [hx] at hg
      cases hg
      omega
    · have := inc_lt h j i x _ hx hg (by omega)
      omega
theorem sub_len : ∀ {R ids : List Int}, (∀ (i j : Nat) (x y : Int), R[i]? = some x → R[j]? = some y → i < j → x ≠ y) → (∀ z ∈ R, z ∈ ids) → R.length ≤ ids.length
  | [], ids, _, _ => by simp
  | z :: R, ids, h1, h2 => by
    have hz := h2 z (by simp)
    have ih := sub_len (R := R) (ids := ids.erase z) (fun i j x y hx hy hij => h1 (i + 1) (j + 1) x y (by simpa using hx) (by simpa using hy) (by omega)) (fun y hy => by
      have hne : y ≠ z := by
        obtain ⟨j, hj⟩ := List.getElem?_of_mem hy
        exact fun he => h1 0 (j + 1) z y rfl (by simpa using hj) (by omega) he.symm
      exact (List.mem_erase_of_ne hne).2 (h2 y (by simp [hy])))
    rw [List.length_erase_of_mem hz] at ih
    have : 0 < ids.length := List.length_pos_of_mem hz
    simp only [List.length_cons]
    omega
theorem refs_len {ids R : List Int} (h : refE ids R = 0) : R.length ≤ ids.length := by
  have h0 := refE_zero h
  refine sub_len (fun i j x y hx hy hij he => ?_) (fun z hz => ?_)
  · have := inc_lt (fun k z hk => (h0 k z hk).2) j i x y hx hy hij
    omega
  · obtain ⟨k, hk⟩ := List.getElem?_of_mem hz
    exact (h0 k z hk).1
theorem chk_zero {l : List Ob} {r : List Int} (h : chkE l r = 0) : objE l = 0 ∧ rfsE l = 0 ∧ refE (idsO l) r = 0 := by
  unfold chkE at h
  by_cases h1 : objE l = 0
  · rw [if_neg (by simp [h1])] at h
    by_cases h2 : rfsE l = 0
    · rw [if_neg (by simp [h2])] at h
      exact ⟨h1, h2, h⟩
    · rw [if_pos h2] at h; exact absurd h h2
  · rw [if_pos h1] at h; exact absurd h h1
theorem rfs_mem {l : List Ob} (h : rfsE l = 0) {o : Ob} (ho : o ∈ l) : refE (idsO l) o.2.2.2 = 0 := by
  obtain ⟨k, hk⟩ := List.getElem?_of_mem ho
  have := (firstF_zero l 0).1 h k o hk
  exact this
theorem idsO_len (l : List Ob) : (idsO l).length = l.length := by simp [idsO]
theorem idx_some {l : List Ob} {id : Int} {j : Nat} (h : idx l id = some j) : ∃ o, l[j]? = some o ∧ o.1 = id := by
  unfold idx at h
  rw [List.findIdx?_eq_some_iff_getElem] at h
  obtain ⟨hj, hp, _⟩ := h
  exact ⟨l[j], List.getElem?_eq_getElem hj, by simpa using hp⟩
/-- a valid heap's objects stand where they are found -/
theorem idx_self {l : List Ob} (h : objE l = 0) {k : Nat} {o : Ob} (ho : l[k]? = some o) : idx l o.1 = some k := by
  have hp : ∀ (k : Nat) (z : Int), (idsO l)[k]? = some z → prevLe (idsO l) k z = false := by
    intro k z hz
    simp only [idsO, List.getElem?_map, Option.map_eq_some_iff] at hz
    obtain ⟨o', ho', rfl⟩ := hz
    have := (firstF_zero l 0).1 h k o' ho'
    rw [Nat.zero_add] at this
    cases hp : prevLe (idsO l) k o'.1 with
    | false => rfl
    | true =>
      unfold objF at this
      rw [hp] at this
      split at this
      · cases this
      · split at this
        · cases this
        · simp at this
  unfold idx
  rw [List.findIdx?_eq_some_iff_getElem]
  obtain ⟨hk, e⟩ := List.getElem?_eq_some_iff.1 ho
  refine ⟨hk, by simp [e], fun j hj => ?_⟩
  have hjl : j < l.length := by omega
  have := inc_lt hp k j _ _ (idsO_get (List.getElem?_eq_getElem hjl)) (idsO_get ho) hj
  simp only [decide_eq_true_eq]
  omega
def Okm (l : List Ob) : Prop := ∀ o ∈ l, o.2.2.2.length ≤ 9223372036854775807
set_option maxRecDepth 100000 in
theorem f3 (l : List Ob) (r : List Int) (id : Int) (hm : Okm l) : evE Dg 3 [eH l r, .int .i64 id] = some (.bool true) := by
  have h8 := f8
  have h9 := f9 l r
  cases hf : fewB l r with
  | false =>
    rw [hf] at h9
    simp only [eH, eI] at h9
    refine evE_intro 1 D3 rfl ?_
    unfold c3
    simp [evCode, evOps, evOne, evOp, evPur, evEff, evPur.chunks, fillP, AOp.isEff, AO.ev, putP, PV.cells, PV.leaf, getB, getM, mapE, iterE, keyC, mapRows, mfind, eq1, eqL, scal, binP, unP, minP, maxP, foldP, PV.lt, PV.lt.ltL, endP, expoAll, expoG, expo, expo.expoL, frIds, frIds.frIdsL, nodupN, kill, cls, clsFuel, resO, RV.get, loadP, evC_p, evC_s, endS, endT, rowsOf, callP, thinL, unfr, unfr.unfrL, PV.noMem, PV.noMem.noMemL, optI, mapO, norm, trimT, trimB, forget, hasN, blksLt, List.set, softChk, softGo, softRd, effTg, tgOf, chgN, sameB, PV.same, PV.same.sameL, PV.same.sameLL, rdP, eH, eI, h8, h9]
  | true =>
    rw [hf] at h9
    obtain ⟨b1, b2, b3⟩ := few_of hf
    have h10 := f10 l r id (by omega)
    have h11 := f11 l r id (by omega)
    have h12 := f12 l r (by omega) (by omega) b3 hm
    have h13 := f13 l r (by omega) (by omega) b3 hm
    have hres : ∃ (i : Int) (b : Bool), fres l id = .tup [.int .i64 i, .bool b] := by
      unfold fres
      split
      · exact ⟨_, _, rfl⟩
      · exact ⟨_, _, rfl⟩
    obtain ⟨i, b, hres⟩ := hres
    rw [hres] at h10 h11
    generalize chkE l r = e at *
    simp only [eH, eI] at h9 h10 h11 h12 h13
    refine evE_intro 1 D3 rfl ?_
    unfold c3
    simp [evCode, evOps, evOne, evOp, evPur, evEff, evPur.chunks, fillP, AOp.isEff, AO.ev, putP, PV.cells, PV.leaf, getB, getM, mapE, iterE, keyC, mapRows, mfind, eq1, eqL, scal, binP, unP, minP, maxP, foldP, PV.lt, PV.lt.ltL, endP, expoAll, expoG, expo, expo.expoL, frIds, frIds.frIdsL, nodupN, kill, cls, clsFuel, resO, RV.get, loadP, evC_p, evC_s, endS, endT, rowsOf, callP, thinL, unfr, unfr.unfrL, PV.noMem, PV.noMem.noMemL, optI, mapO, norm, trimT, trimB, forget, hasN, blksLt, List.set, softChk, softGo, softRd, effTg, tgOf, chgN, sameB, PV.same, PV.same.sameL, PV.same.sameLL, rdP, eH, eI, h8, h9, h10, h11, h12, h13]
set_option maxRecDepth 100000
theorem in_ints {d : Nat} {ps : List PV} (h : HT Tryd.prog (d + 2) 23 ps) : ∃ l : List Int, ps = [eI l] ∧ l.length ≤ maxLen := by
  obtain ⟨l, h1, h2, h3⟩ := argT_rows (f := fun z => [.int .i64 z]) (Q := fun _ => True) Tryd.underlying23 (c := 1) (by kernel_rfl) (fun r hr => by
    obtain ⟨i, rfl, _⟩ := ht_int Tryd.underlying3 hr
    exact ⟨i, rfl, trivial⟩) h
  exact ⟨l, h1, h2⟩
theorem in_ob {d : Nat} {ps : List PV} (h : HT Tryd.prog (d + 4) 40 ps) : ∃ o : Ob, ps = oR1 o ∧ o.2.2.2.length ≤ maxLen := by
  obtain ⟨q0, r0, rfl, h0, h⟩ := htf_cons (ht_struct Tryd.underlying40 h)
  obtain ⟨q1, r1, rfl, h1, h⟩ := htf_cons h
  obtain ⟨q2, r2, rfl, h2, h⟩ := htf_cons h
  obtain ⟨q3, r3, rfl, h3, h⟩ := htf_cons h
  obtain rfl := htf_nil h
  obtain ⟨i0, rfl, w0⟩ := ht_int Tryd.underlying3 h0
  obtain ⟨i1, rfl, w1⟩ := ht_int Tryd.underlying3 h1
  obtain ⟨s, rfl, w2⟩ := ht_string Tryd.underlying9 h2
  obtain ⟨l, rfl, g1⟩ := in_ints h3
  exact ⟨⟨i0, i1, s, l⟩, rfl, g1⟩
theorem in_obs {d : Nat} {ps : List PV} (h : HT Tryd.prog (d + 5) 22 ps) : ∃ l : List Ob, ps = [.sl false 4 (oR l)] ∧ Okm l := by
  obtain ⟨l, h1, h2, h3⟩ := argT_rows (f := oR1) (Q := fun o => o.2.2.2.length ≤ maxLen) Tryd.underlying22 (c := 4) (by kernel_rfl) (fun r hr => in_ob hr) h
  exact ⟨l, h1, fun o ho => by have := h3 o ho; unfold maxLen at this; omega⟩
theorem in_heap {d : Nat} {p : PV} (h : ArgT Tryd.prog (d + 7) 25 p) : ∃ l r, p = eH l r ∧ Okm l := by
  obtain ⟨ps, rfl, h2⟩ := argT_struct Tryd.underlying25 h
  have hf := ht_struct Tryd.underlying25 h2
  obtain ⟨p1, q1, rfl, a1, b1⟩ := htf_cons hf
  obtain ⟨p2, q2, rfl, a2, b2⟩ := htf_cons b1
  obtain rfl := htf_nil b2
  obtain ⟨l, rfl, hm⟩ := in_obs a1
  obtain ⟨r, rfl, _⟩ := in_ints a2
  exact ⟨l, r, rfl, hm⟩
theorem in_i64 {d : Nat} {p : PV} (h : ArgT Tryd.prog (d + 1) 3 p) : ∃ i, p = .int .i64 i := by
  obtain ⟨i, rfl, _⟩ := argT_int Tryd.underlying3 h
  exact ⟨i, rfl⟩
theorem law3 (ps : List PV) (h : ArgL Tryd.prog 12 [25, 3] ps) : evE Dg 3 ps = some (.bool true) := by
  obtain ⟨p, q, rfl, h1, h2⟩ := argL2 h
  obtain ⟨l, r, rfl, hm⟩ := in_heap h1
  obtain ⟨id, rfl⟩ := in_i64 h2
  exact f3 l r id hm
end Go.Proofs.YtdbfbaiopmpklaaDoor
