/- The reference's Linked. -/
import Derived.Test.YtkdalahepedghaaCkH
namespace Go.Proofs.Ytkdalahepedghaa
open Go Go.RowKit
set_option maxHeartbeats 4000000
set_option linter.unusedVariables false
set_option linter.unusedSimpArgs false

theorem rst_mem {c : Int} {out : List Int} {s : Sn} {x : Int} (h : x ∈ out) : x ∈ rst c out s := by
  obtain ⟨t, ht⟩ := @rst_pre c out s
  rw [ht]; simp [h]
theorem rst_has {c : Int} {out : List Int} {s : Sn} : (s.a = c → s.b ∈ rst c out s) ∧ (s.b = c → s.a ∈ rst c out s) := by
  unfold rst
  constructor
  · intro h
    rw [if_pos h]
    split
    · exact addK_mem.2 (.inl (addK_mem.2 (.inr rfl)))
    · exact addK_mem.2 (.inr rfl)
  · intro h
    rw [if_pos h]
    exact addK_mem.2 (.inr rfl)
theorem rst_nodup {c : Int} {out : List Int} {s : Sn} (h : out.Nodup) : (rst c out s).Nodup := by
  unfold rst
  by_cases h1 : s.a = c
  · rw [if_pos h1]
    split
    · exact addK_nodup (addK_nodup h)
    · exact addK_nodup h
  · rw [if_neg h1]
    split
    · exact addK_nodup h
    · exact h
theorem rst_all {P : Int → Prop} {c : Int} {out : List Int} {s : Sn} (hc : P c) (h : ∀ x, x ∈ out → P x) (h1 : P s.a → P s.b) (h2 : P s.b → P s.a) : ∀ x, x ∈ rst c out s → P x := by
  intro x hx
  unfold rst at hx
  have key : ∀ x, x ∈ (if s.a = c then addK out s.b else out) → P x := by
    intro x hx
    split at hx
    · rename_i e
      rcases addK_mem.1 hx with hx | rfl
      · exact h x hx
      · exact h1 (e ▸ hc)
    · exact h x hx
  split at hx
  · rename_i e
    rcases addK_mem.1 hx with hx | rfl
    · exact key x hx
    · exact h2 (e ▸ hc)
  · exact key x hx
theorem fold_pre {c : Int} (r : List Sn) : ∀ out : List Int, ∃ t, r.foldl (rst c) out = out ++ t := by
  induction r with
  | nil => intro out; exact ⟨[], by simp⟩
  | cons s r ih =>
    intro out
    obtain ⟨t, ht⟩ := ih (rst c out s)
    obtain ⟨u, hu⟩ := @rst_pre c out s
    exact ⟨u ++ t, by rw [List.foldl_cons, ht, hu, List.append_assoc]⟩
theorem fold_nodup {c : Int} (r : List Sn) : ∀ out : List Int, out.Nodup → (r.foldl (rst c) out).Nodup := by
  induction r with
  | nil => intro out h; exact h
  | cons s r ih => intro out h; exact ih _ (rst_nodup h)
theorem fold_all {P : Int → Prop} {c : Int} (hc : P c) (r : List Sn) (hs : ∀ s, s ∈ r → (P s.a → P s.b) ∧ (P s.b → P s.a)) : ∀ out : List Int, (∀ x, x ∈ out → P x) → ∀ x, x ∈ r.foldl (rst c) out → P x := by
  induction r with
  | nil => intro out h; exact h
  | cons s r ih => intro out h; exact ih (fun t ht => hs t (by simp [ht])) _ (rst_all hc h (hs s (by simp)).1 (hs s (by simp)).2)
theorem fold_has {c : Int} (r : List Sn) : ∀ out : List Int, ∀ s, s ∈ r → (s.a = c → s.b ∈ r.foldl (rst c) out) ∧ (s.b = c → s.a ∈ r.foldl (rst c) out) := by
  induction r with
  | nil => intro out s h; simp at h
  | cons t r ih =>
    intro out s h
    rcases List.mem_cons.1 h with rfl | h
    · obtain ⟨u, hu⟩ := fold_pre (c := c) r (rst c out s)
      rw [List.foldl_cons, hu]
      obtain ⟨h1, h2⟩ := @rst_has c out s
      exact ⟨fun e => List.mem_append_left _ (h1 e), fun e => List.mem_append_left _ (h2 e)⟩
    · exact ih _ s h

/-- the search so far -/
structure Qi (l : List Sn) (i : Nat) (out : List Int) : Prop where
  nd : out.Nodup
  re : ∀ z, z ∈ out → Rch l z
  ze : 0 ∈ out
  le : i ≤ out.length
  cl : ∀ j c, j < i → out[j]? = some c → ∀ s, s ∈ l → (s.a = c → s.b ∈ out) ∧ (s.b = c → s.a ∈ out)
theorem Rch.has {l : List Sn} {z : Int} (h : Rch l z) : z ∈ 0 :: (l.map (·.a) ++ l.map (·.b)) := by
  induction h with
  | base => simp
  | ab hs _ _ => simp; exact .inr (.inr ⟨_, hs, rfl⟩)
  | ba hs _ _ => simp; exact .inr (.inl ⟨_, hs, rfl⟩)
theorem Qi.len {l : List Sn} {i : Nat} {out : List Int} (h : Qi l i out) : out.length ≤ 2 * l.length + 1 := by
  have := nodup_len h.nd (fun z hz => (h.re z hz).has)
  simp at this
  omega
theorem Qi.next {l : List Sn} {i : Nat} {out : List Int} (h : Qi l i out) {c : Int} (hc : out[i]? = some c) : Qi l (i + 1) (l.foldl (rst c) out) := by
  obtain ⟨t, ht⟩ := fold_pre (c := c) l out
  have hi := (List.getElem?_eq_some_iff.1 hc).1
  refine ⟨fold_nodup l out h.nd, fold_all (h.re c (List.mem_of_getElem? hc)) l (fun s hs => ⟨.ab hs, .ba hs⟩) out h.re, ?_, ?_, ?_⟩
  · rw [ht]; exact List.mem_append_left _ h.ze
  · rw [ht]; simp; omega
  · intro j e hj he s hs
    by_cases hji : j = i
    · subst hji
      rw [ht, List.getElem?_append_left hi, hc] at he
      obtain rfl := Option.some.inj he
      exact fold_has l out s hs
    · have hj' : j < i := by omega
      rw [ht, List.getElem?_append_left (by omega)] at he
      have := h.cl j e hj' he s hs
      rw [ht]
      exact ⟨fun q => List.mem_append_left _ (this.1 q), fun q => List.mem_append_left _ (this.2 q)⟩
theorem Qi.done {l : List Sn} {out : List Int} (h : Qi l out.length out) (z : Int) : z ∈ out ↔ Rch l z := by
  refine ⟨h.re z, Rch.closed h.ze ?_⟩
  intro s hs
  constructor
  · intro ha
    obtain ⟨j, hj, e⟩ := List.getElem_of_mem ha
    exact (h.cl j s.a hj (by rw [List.getElem?_eq_getElem hj, e]) s hs).1 rfl
  · intro hb
    obtain ⟨j, hj, e⟩ := List.getElem_of_mem hb
    exact (h.cl j s.b hj (by rw [List.getElem?_eq_getElem hj, e]) s hs).2 rfl

def S27o (y : Bool) (l : List Sn) (x : Nat × List Int) : St :=
  ⟨[eNs y l, .top, .top, .own 1 x.2.length 0 x.2.length, .int .i64 x.1] ++ List.replicate 71 .top, [some ⟨0, 1, true, []⟩, some ⟨x.2.length, 1, true, iRows x.2⟩]⟩
set_option maxRecDepth 100000 in
theorem turn27o (y : Bool) (l : List Sn) (hl : l.length ≤ 250) (s0 : St) (E : Option Out)
    (hE : evLoop (evCode (evC Dg) 1100 c27b1) [0, 3, 4] 2 1100 s0 = E) (h0 : norm [0, 3, 4] 2 s0 = S27o y l (0, [0])) :
    ∃ out, Qi l out.length out ∧ E = evCode (evC Dg) 1100 c27b1 (S27o y l (out.length, out)) := by
  have H := loop_while (body := evCode (evC Dg) 1100 c27b1) (keep := [0, 3, 4]) (n0 := 2) (S27o y l) (fun x => 1000 - x.1) (fun x => Qi l x.1 x.2)
    (fun o => ∃ out, Qi l out.length out ∧ some o = evCode (evC Dg) 1100 c27b1 (S27o y l (out.length, out))) ?_ (fuel := 1100) (0, [0]) ⟨by simp, by intro z hz; simp at hz; subst hz; exact .base, by simp, by simp, by intro j c hj; omega⟩ (by decide) s0 E hE h0
  · obtain ⟨o, h1, out, h2, h3⟩ := H
    exact ⟨out, h2, by rw [h1, h3]⟩
  · rintro ⟨i, out⟩ hI
    have hI : Qi l i out := hI
    have hlen := hI.len
    have eL := iRows_len out
    by_cases hi : i < out.length
    · left
      have hc : out[i]? = some out[i] := List.getElem?_eq_getElem hi
      generalize out[i] = c at hc
      have hN := hI.next hc
      have hNl := hN.len
      refine ⟨(i + 1, l.foldl (rst c) out), ?_⟩
      refine (fun ⟨s', q1, q2⟩ => ⟨s', q1, q2, hN, (by show 1000 - (i + 1) < 1000 - i; omega)⟩ : (∃ s', _ ∧ _) → _) ?_
      have h1 := wrap_i64 ((i : Int) + 1) (by omega) (by omega)
      have hi' : (i : Int) < out.length := by omega
      unfold c27b1
      simp [evCode, evOps, evOne, evOp, evPur, evEff, evPur.chunks, fillP, AOp.isEff, AO.ev, putP, PV.cells, PV.leaf, getB, getM, mapE, keyC, mapRows, mfind, eq1, eqL, scal, binP, unP, minP, maxP, foldP, PV.lt, PV.lt.ltL, endP, expoAll, expo, expo.expoL, frIds, frIds.frIdsL, nodupN, kill, cls, clsFuel, resO, RV.get, loadP, evC_p, evC_s, endS, endT, rowsOf, callP, thinL, unfr, unfr.unfrL, PV.noMem, PV.noMem.noMemL, optI, mapO, norm, trimT, trimB, forget, hasN, blksLt, List.set, softChk, softGo, softRd, effTg, rdP, S27o, eNs, hi', eL]
      generalize hE : evLoop _ _ _ _ _ = E
      have := turn27i y l (by omega) i c out hc (by omega) _ _ hE (by simp [evCode, evOps, evOne, evOp, evPur, evEff, evPur.chunks, fillP, AOp.isEff, AO.ev, putP, PV.cells, PV.leaf, getB, getM, mapE, keyC, mapRows, mfind, eq1, eqL, scal, binP, unP, minP, maxP, foldP, PV.lt, PV.lt.ltL, endP, expoAll, expo, expo.expoL, frIds, frIds.frIdsL, nodupN, kill, cls, clsFuel, resO, RV.get, loadP, evC_p, evC_s, endS, endT, rowsOf, callP, thinL, unfr, unfr.unfrL, PV.noMem, PV.noMem.noMemL, optI, mapO, norm, trimT, trimB, forget, hasN, blksLt, List.set, softChk, softGo, softRd, effTg, rdP, S27i, eNs, eL])
      rw [this]
      have eL2 := iRows_len (l.foldl (rst c) out)
      unfold c27b0
      simp [evCode, evOps, evOne, evOp, evPur, evEff, evPur.chunks, fillP, AOp.isEff, AO.ev, putP, PV.cells, PV.leaf, getB, getM, mapE, keyC, mapRows, mfind, eq1, eqL, scal, binP, unP, minP, maxP, foldP, PV.lt, PV.lt.ltL, endP, expoAll, expo, expo.expoL, frIds, frIds.frIdsL, nodupN, kill, cls, clsFuel, resO, RV.get, loadP, evC_p, evC_s, endS, endT, rowsOf, callP, thinL, unfr, unfr.unfrL, PV.noMem, PV.noMem.noMemL, optI, mapO, norm, trimT, trimB, forget, hasN, blksLt, List.set, softChk, softGo, softRd, effTg, rdP, S27i, S27o, eNs, h1, eL2]
    · right
      have hil : i = out.length := by have := hI.le; omega
      subst hil
      have key : ∃ s, evCode (evC Dg) 1100 c27b1 (S27o y l (out.length, out)) = some (.exit 0 s) := by
        unfold c27b1
        simp [evCode, evOps, evOne, evOp, evPur, evEff, evPur.chunks, fillP, AOp.isEff, AO.ev, putP, PV.cells, PV.leaf, getB, getM, mapE, keyC, mapRows, mfind, eq1, eqL, scal, binP, unP, minP, maxP, foldP, PV.lt, PV.lt.ltL, endP, expoAll, expo, expo.expoL, frIds, frIds.frIdsL, nodupN, kill, cls, clsFuel, resO, RV.get, loadP, evC_p, evC_s, endS, endT, rowsOf, callP, thinL, unfr, unfr.unfrL, PV.noMem, PV.noMem.noMemL, optI, mapO, norm, trimT, trimB, forget, hasN, blksLt, List.set, softChk, softGo, softRd, effTg, rdP, S27o, eNs, eL]
      obtain ⟨s, hs⟩ := key
      refine ⟨_, hs, ?_, out, hI, hs.symm⟩
      · intro s' e; cases e
set_option maxRecDepth 100000 in
theorem f27 (y : Bool) (l : List Sn) (hl : l.length ≤ 250) : ∃ out : List Int, evE Dg 27 [eNs y l] = some (.fr 1 (iRows out)) ∧ out.length ≤ 1000 ∧ ∀ z, z ∈ out ↔ Rch l z := by
  suffices h : ∃ v, evE Dg 27 [eNs y l] = some v ∧ ∃ out : List Int, v = .fr 1 (iRows out) ∧ out.length ≤ 1000 ∧ ∀ z, z ∈ out ↔ Rch l z by
    obtain ⟨v, h1, m, rfl, h2⟩ := h
    exact ⟨m, h1, h2⟩
  have H := turn27o y l hl
  refine evE_introX 1100 D27 rfl ?_
  unfold c27
  simp [evCode, evOps, evOne, evOp, evPur, evEff, evPur.chunks, fillP, AOp.isEff, AO.ev, putP, PV.cells, PV.leaf, getB, getM, mapE, keyC, mapRows, mfind, eq1, eqL, scal, binP, unP, minP, maxP, foldP, PV.lt, PV.lt.ltL, endP, expoAll, expo, expo.expoL, frIds, frIds.frIdsL, nodupN, kill, cls, clsFuel, resO, RV.get, loadP, evC_p, evC_s, endS, endT, rowsOf, callP, thinL, unfr, unfr.unfrL, PV.noMem, PV.noMem.noMemL, optI, mapO, norm, trimT, trimB, forget, hasN, blksLt, List.set, softChk, softGo, softRd, effTg, rdP, eNs]
  generalize hE : evLoop _ _ _ _ _ = E
  obtain ⟨out, h1, h2⟩ := H _ _ hE (by simp [evCode, evOps, evOne, evOp, evPur, evEff, evPur.chunks, fillP, AOp.isEff, AO.ev, putP, PV.cells, PV.leaf, getB, getM, mapE, keyC, mapRows, mfind, eq1, eqL, scal, binP, unP, minP, maxP, foldP, PV.lt, PV.lt.ltL, endP, expoAll, expo, expo.expoL, frIds, frIds.frIdsL, nodupN, kill, cls, clsFuel, resO, RV.get, loadP, evC_p, evC_s, endS, endT, rowsOf, callP, thinL, unfr, unfr.unfrL, PV.noMem, PV.noMem.noMemL, optI, mapO, norm, trimT, trimB, forget, hasN, blksLt, List.set, softChk, softGo, softRd, effTg, rdP, S27o, eNs, iRows])
  have eL := iRows_len out
  have hlen := h1.len
  rw [h2]
  unfold c27b1
  simp [evCode, evOps, evOne, evOp, evPur, evEff, evPur.chunks, fillP, AOp.isEff, AO.ev, putP, PV.cells, PV.leaf, getB, getM, mapE, keyC, mapRows, mfind, eq1, eqL, scal, binP, unP, minP, maxP, foldP, PV.lt, PV.lt.ltL, endP, expoAll, expo, expo.expoL, frIds, frIds.frIdsL, nodupN, kill, cls, clsFuel, resO, RV.get, loadP, evC_p, evC_s, endS, endT, rowsOf, callP, thinL, unfr, unfr.unfrL, PV.noMem, PV.noMem.noMemL, optI, mapO, norm, trimT, trimB, forget, hasN, blksLt, List.set, softChk, softGo, softRd, effTg, rdP, S27o, eNs, eL]
  exact ⟨out, rfl, by omega, h1.done⟩
theorem f17 (x y : Bool) (d : List Dm) (l : List Sn) (z : Int) (hd : d.length ≤ 1000) (hl : l.length ≤ 250) : ∃ b, evE Dg 17 [eDs x d, eNs y l, .int .i64 z] = some (.bool b) ∧ (b = true ↔ Lk d l z) := by
  have h1 := f13 x y d l hd (by omega)
  have h2 := f24 x z d hd
  obtain ⟨out, h3, h4, h5⟩ := f27 y l hl
  have h6 := f21r z out (by omega)
  have hz := @fnd_mem z d
  have hx : (!nhas z out) = true ↔ Rch l z := by
    rw [← h5 z]
    constructor
    · intro h; exact nhas_iff.1 (by simpa using h)
    · exact has_of
  unfold Lk
  rw [← hz, ← hx]
  generalize ckF d l = C at *
  generalize fnd z d = F at *
  generalize (!nhas z out) = B at *
  refine ⟨decide (C = 0) && (decide (0 ≤ F) && B), ?_, by simp⟩
  refine evE_intro 1 D17 rfl ?_
  simp only [eDs, eNs] at h1 h2 h3
  unfold c17
  by_cases hc : C = 0
  · by_cases hf : 0 ≤ F
    · simp [evCode, evOps, evOne, evOp, evPur, evEff, evPur.chunks, fillP, AOp.isEff, AO.ev, putP, PV.cells, PV.leaf, getB, getM, mapE, keyC, mapRows, mfind, eq1, eqL, scal, binP, unP, minP, maxP, foldP, PV.lt, PV.lt.ltL, endP, expoAll, expo, expo.expoL, frIds, frIds.frIdsL, nodupN, kill, cls, clsFuel, resO, RV.get, loadP, evC_p, evC_s, endS, endT, rowsOf, callP, thinL, unfr, unfr.unfrL, PV.noMem, PV.noMem.noMemL, optI, mapO, norm, trimT, trimB, forget, hasN, blksLt, List.set, softChk, softGo, softRd, effTg, rdP, eDs, eNs, h1, h2, h3, h6, hc, hf]
    · simp [evCode, evOps, evOne, evOp, evPur, evEff, evPur.chunks, fillP, AOp.isEff, AO.ev, putP, PV.cells, PV.leaf, getB, getM, mapE, keyC, mapRows, mfind, eq1, eqL, scal, binP, unP, minP, maxP, foldP, PV.lt, PV.lt.ltL, endP, expoAll, expo, expo.expoL, frIds, frIds.frIdsL, nodupN, kill, cls, clsFuel, resO, RV.get, loadP, evC_p, evC_s, endS, endT, rowsOf, callP, thinL, unfr, unfr.unfrL, PV.noMem, PV.noMem.noMemL, optI, mapO, norm, trimT, trimB, forget, hasN, blksLt, List.set, softChk, softGo, softRd, effTg, rdP, eDs, eNs, h1, h2, h3, h6, hc, hf]
  · simp [evCode, evOps, evOne, evOp, evPur, evEff, evPur.chunks, fillP, AOp.isEff, AO.ev, putP, PV.cells, PV.leaf, getB, getM, mapE, keyC, mapRows, mfind, eq1, eqL, scal, binP, unP, minP, maxP, foldP, PV.lt, PV.lt.ltL, endP, expoAll, expo, expo.expoL, frIds, frIds.frIdsL, nodupN, kill, cls, clsFuel, resO, RV.get, loadP, evC_p, evC_s, endS, endT, rowsOf, callP, thinL, unfr, unfr.unfrL, PV.noMem, PV.noMem.noMemL, optI, mapO, norm, trimT, trimB, forget, hasN, blksLt, List.set, softChk, softGo, softRd, effTg, rdP, eDs, eNs, h1, h2, h3, h6, hc]
end Go.Proofs.Ytkdalahepedghaa
