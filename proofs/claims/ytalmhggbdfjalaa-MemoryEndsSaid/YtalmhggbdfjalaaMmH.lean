/- The reference's put and Of. -/
import Derived.Test.YtalmhggbdfjalaaMmG
namespace Go.Proofs.Ytalmhggbdfjalaa
open Go Go.RowKit
set_option linter.unusedVariables false
set_option linter.unusedSimpArgs false
set_option maxHeartbeats 4000000

theorem bRows_plain (s : List Bk) : ∀ x ∈ bRows s, PV.lt.ltL 0 x = true := fun x hx => by
  unfold bRows at hx
  obtain ⟨b, _, rfl⟩ := List.mem_map.1 hx
  rfl
def B36 (b : Bk) : Blks := [some ⟨1, 7, true, [bRow b]⟩, some ⟨0, 7, true, []⟩]
def S36 (s : List Bk) (b : Bk) (k : Nat) : St := ⟨[.sl false 7 (bRows s), .top, .top, .ptr 0 1 0 0, .top, .int .i64 k] ++ List.replicate 34 .top, B36 b⟩
def X36 (s : List Bk) (b : Bk) (k : Nat) (o : Out) : Prop := ∃ z9 z10 z11 z12 z13 z14 z15 z16 z17 z18 z19 z20 z21 z22 z23, o = .exit 0 ⟨[.sl false 7 (bRows s), .top, .top, .ptr 0 1 0 0, .top, .int .i64 k, .top, .top, .top, z9, z10, z11, z12, z13, z14, z15, z16, z17, z18, z19, z20, z21, z22, z23] ++ List.replicate 16 .top, B36 b⟩
set_option maxRecDepth 100000 in
theorem x36a (s : List Bk) (b : Bk) (f : Nat) : ∃ o, evCode (evC Dg) f c36b0 (S36 s b 0) = some o ∧ X36 s b 0 o := by
  refine ⟨.exit 0 ⟨[.sl false 7 (bRows s), .top, .top, .ptr 0 1 0 0, .top, .int .i64 0, .top, .top, .top, .int .i64 0, .bool false, .bool false, .v (.tuple #[]), .v (.tuple #[]), .v (.tuple #[]), .v (.tuple #[]), .v (.tuple #[]), .v (.tuple #[]), .v (.tuple #[]), .v (.tuple #[]), .v (.tuple #[]), .v (.tuple #[]), .v (.tuple #[]), .bool false] ++ List.replicate 16 .top, B36 b⟩, ?_, ?_⟩
  · unfold c36b0
    simp [evCode, evOps, evOne, evOp, evPur, evEff, evPur.chunks, fillP, AOp.isEff, AO.ev, putP, PV.cells, PV.leaf, getB, getM, mapE, iterE, keyC, mapRows, mfind, eq1, eqL, scal, binP, unP, minP, maxP, foldP, PV.lt, PV.lt.ltL, endP, expoAll, expoG, expo, expo.expoL, frIds, frIds.frIdsL, nodupN, kill, cls, clsFuel, resO, RV.get, loadP, evC_p, evC_s, endS, endT, rowsOf, callP, thinL, unfr, unfr.unfrL, PV.noMem, PV.noMem.noMemL, optI, mapO, norm, trimT, trimB, forget, hasN, blksLt, List.set, softChk, softGo, softRd, effTg, rdP, S36, B36]
  · unfold X36
    exact ⟨_, _, _, _, _, _, _, _, _, _, _, _, _, _, _, rfl⟩
set_option maxRecDepth 100000 in
theorem x36b (s : List Bk) (b y : Bk) (k : Nat) (hk0 : 0 < k) (hk : k ≤ s.length) (hl : s.length ≤ 100000) (hy : s[k - 1]? = some y) (f : Nat) :
    (b.f < y.f → ∃ s', evCode (evC Dg) f c36b0 (S36 s b k) = some (.normal s') ∧ norm [0, 3, 5] 2 s' = S36 s b (k - 1)) ∧
    (¬ b.f < y.f → ∃ o, evCode (evC Dg) f c36b0 (S36 s b k) = some o ∧ X36 s b k o) := by
  have w1 : IntKind.i64.wrap ((k : Int) - 1) = ((k - 1 : Nat) : Int) := by rw [wrap_i64 _ (by omega) (by omega)]; omega
  have c0 : (0 : Int) < k := by omega
  have eL := bRows_len s
  have eg := bRows_get hy
  have eg' := bRows_getE hy
  have hj : k - 1 < s.length := by omega
  obtain ⟨j, hjj⟩ : ∃ j, k - 1 = j := ⟨_, rfl⟩
  rw [hjj] at w1 eg hj ⊢
  have eg2 : ∀ g, (bRows s)[j]'g = bRow y := by rw [← hjj]; exact eg'
  have c1 : (0 : Int) ≤ j := by omega
  have c2 : (j : Int) < s.length := by omega
  clear eg' hjj hy
  constructor
  · intro h
    unfold c36b0
    simp [evCode, evOps, evOne, evOp, evPur, evEff, evPur.chunks, fillP, AOp.isEff, AO.ev, putP, PV.cells, PV.leaf, getB, getM, mapE, iterE, keyC, mapRows, mfind, eq1, eqL, scal, binP, unP, minP, maxP, foldP, PV.lt, PV.lt.ltL, endP, expoAll, expoG, expo, expo.expoL, frIds, frIds.frIdsL, nodupN, kill, cls, clsFuel, resO, RV.get, loadP, evC_p, evC_s, endS, endT, rowsOf, callP, thinL, unfr, unfr.unfrL, PV.noMem, PV.noMem.noMemL, optI, mapO, norm, trimT, trimB, forget, hasN, blksLt, List.set, softChk, softGo, softRd, effTg, rdP, S36, B36, eL, eg, eg2, hj, c0, hk0, c1, c2, w1, bRow, eTx, h]
  · intro h
    refine ⟨.exit 0 ⟨[.sl false 7 (bRows s), .top, .top, .ptr 0 1 0 0, .top, .int .i64 k, .top, .top, .top, .int .i64 k, .bool true, .bool true, .sl false 7 (bRows s), .int .i64 k, .int .i64 j, .cptr (bRow y), .cptr ((bRow y).drop 3), .cptr ((bRow y).drop 3), .int .i64 y.f, .ptr 0 1 0 3, .ptr 0 1 0 3, .int .i64 b.f, .bool false, .bool false] ++ List.replicate 16 .top, B36 b⟩, ?_, ?_⟩
    · unfold c36b0
      simp [evCode, evOps, evOne, evOp, evPur, evEff, evPur.chunks, fillP, AOp.isEff, AO.ev, putP, PV.cells, PV.leaf, getB, getM, mapE, iterE, keyC, mapRows, mfind, eq1, eqL, scal, binP, unP, minP, maxP, foldP, PV.lt, PV.lt.ltL, endP, expoAll, expoG, expo, expo.expoL, frIds, frIds.frIdsL, nodupN, kill, cls, clsFuel, resO, RV.get, loadP, evC_p, evC_s, endS, endT, rowsOf, callP, thinL, unfr, unfr.unfrL, PV.noMem, PV.noMem.noMemL, optI, mapO, norm, trimT, trimB, forget, hasN, blksLt, List.set, softChk, softGo, softRd, effTg, rdP, S36, B36, eL, eg, eg2, hj, c0, hk0, c1, c2, w1, bRow, eTx, h]
    · unfold X36
      exact ⟨_, _, _, _, _, _, _, _, _, _, _, _, _, _, _, rfl⟩
set_option maxRecDepth 100000 in
theorem f36 (s : List Bk) (b : Bk) (hs : Srt leB s) (hl : s.length ≤ 10000) : evE Dg 36 [.sl false 7 (bRows s), .agg (bRow b)] = some (.fr 7 (bRows (putS leB b s))) := by
  obtain ⟨S1, S2, e1, e2, e3, e4⟩ := putS_split leB_ord b hs
  rw [e2]
  have hlen : s.length = S1.length + S2.length := by rw [e1, List.length_append]
  have H := fun (s0 : St) (E : Option Out) => loop_while (body := evCode (evC Dg) 20000 c36b0) (keep := [0, 3, 5]) (n0 := 2) (fuel := 20000) (S36 s b) (fun k => k) (fun k => S1.length ≤ k ∧ k ≤ s.length) (fun o => X36 s b S1.length o) (by
    rintro k ⟨h1, h2⟩
    rcases Nat.eq_zero_or_pos k with h0 | h0
    · subst h0
      have : S1.length = 0 := by omega
      rw [this]
      obtain ⟨o, h3, h4⟩ := x36a s b 20000
      refine .inr ⟨o, h3, ?_, h4⟩
      intro s' hs'
      subst hs'
      unfold X36 at h4
      obtain ⟨_, _, _, _, _, _, _, _, _, _, _, _, _, _, _, h4⟩ := h4
      cases h4
    · obtain ⟨y, hy⟩ : ∃ y, s[k - 1]? = some y := ⟨_, List.getElem?_eq_getElem (by omega)⟩
      obtain ⟨h3, h4⟩ := x36b s b y k h0 h2 (by omega) hy 20000
      by_cases hc : b.f < y.f
      · obtain ⟨s', h5, h6⟩ := h3 hc
        have hk : S1.length ≠ k := by
          rintro rfl
          rw [e1, List.getElem?_append_left (by omega)] at hy
          have := e3 y (List.mem_of_getElem? hy)
          unfold leB at this
          simp at this
          omega
        exact .inl ⟨k - 1, s', h5, h6, ⟨by omega, by omega⟩, by omega⟩
      · obtain ⟨o, h5, h6⟩ := h4 hc
        have hk : S1.length = k := by
          rcases Nat.lt_or_ge S1.length k with h7 | h7
          · rw [e1, List.getElem?_append_right (by omega)] at hy
            have := e4 y (List.mem_of_getElem? hy)
            unfold leB at this
            simp at this
            omega
          · omega
        rw [hk]
        refine .inr ⟨o, h5, ?_, h6⟩
        intro s' hs'
        subst hs'
        unfold X36 at h6
        obtain ⟨_, _, _, _, _, _, _, _, _, _, _, _, _, _, _, h6⟩ := h6
        cases h6) s.length ⟨by omega, Nat.le_refl _⟩ (by omega) s0 E
  have eL := bRows_len s
  have t1 : (bRows s).take S1.length = bRows S1 := by rw [bRows_take, e1]; simp
  have t2 : (bRows s).drop S1.length = bRows S2 := by unfold bRows; rw [← List.map_drop, e1]; simp
  have r1 : bRows (S1 ++ b :: S2) = bRows S1 ++ bRow b :: bRows S2 := by simp [bRows]
  have l1 := bRows_len S1
  have l2 := bRows_len S2
  rw [r1]
  refine evE_intro 20000 D36 rfl ?_
  unfold c36
  have eTL : ∀ b : Bk, PV.lt 0 (eTx b.st) = true := fun _ => rfl
  simp [evCode, evOps, evOne, evOp, evPur, evEff, evPur.chunks, fillP, AOp.isEff, AO.ev, putP, PV.cells, PV.leaf, getB, getM, mapE, iterE, keyC, mapRows, mfind, eq1, eqL, scal, binP, unP, minP, maxP, foldP, PV.lt, PV.lt.ltL, endP, expoAll, expoG, expo, expo.expoL, frIds, frIds.frIdsL, nodupN, kill, cls, clsFuel, resO, RV.get, loadP, evC_p, evC_s, endS, endT, rowsOf, callP, thinL, unfr, unfr.unfrL, PV.noMem, PV.noMem.noMemL, optI, mapO, norm, trimT, trimB, forget, hasN, blksLt, List.set, softChk, softGo, softRd, effTg, rdP, bRow, eTx]
  generalize hE : evLoop (evCode (evC Dg) 20000 c36b0) [0, 3, 5] 2 20000 _ = E
  obtain ⟨o, rfl, hX⟩ := H _ E hE (by simp [evCode, evOps, evOne, evOp, evPur, evEff, evPur.chunks, fillP, AOp.isEff, AO.ev, putP, PV.cells, PV.leaf, getB, getM, mapE, iterE, keyC, mapRows, mfind, eq1, eqL, scal, binP, unP, minP, maxP, foldP, PV.lt, PV.lt.ltL, endP, expoAll, expoG, expo, expo.expoL, frIds, frIds.frIdsL, nodupN, kill, cls, clsFuel, resO, RV.get, loadP, evC_p, evC_s, endS, endT, rowsOf, callP, thinL, unfr, unfr.unfrL, PV.noMem, PV.noMem.noMemL, optI, mapO, norm, trimT, trimB, forget, hasN, blksLt, List.set, softChk, softGo, softRd, effTg, rdP, S36, B36, bRow, eTx, eL])
  unfold X36 at hX
  obtain ⟨z9, z10, z11, z12, z13, z14, z15, z16, z17, z18, z19, z20, z21, z22, z23, rfl⟩ := hX
  clear hE H
  have c1 : (S1.length : Int) ≤ s.length := by omega
  have c2 : S1.length ≤ s.length := by omega
  generalize bRows s = rs at *
  have a1 : S1.length * 72 ≤ 140737488355328 := by omega
  have a2 : S1.length ≤ 140737488355328 := by omega
  have a3 : (S1.length + 1) * 72 ≤ 140737488355328 := by omega
  have a4 : S1.length + 1 ≤ 140737488355328 := by omega
  have a5 : (S1.length + 1 + S2.length) * 72 ≤ 140737488355328 := by omega
  have a6 : S1.length + 1 + S2.length ≤ 140737488355328 := by omega
  have p1 : ∀ x ∈ bRows S1, PV.lt.ltL 0 x = true := bRows_plain S1
  have p2 : ∀ x ∈ bRows S2, PV.lt.ltL 0 x = true := bRows_plain S2
  generalize hR1 : bRows S1 = R1 at *
  generalize hR2 : bRows S2 = R2 at *
  obtain ⟨q, hq⟩ : ∃ q, S1.length + 1 + S2.length = q := ⟨_, rfl⟩
  obtain ⟨p, hp⟩ : ∃ p, S1.length + 1 = p := ⟨_, rfl⟩
  generalize S1.length = n1 at *
  generalize S2.length = n2 at *
  rw [hp] at hq a3 a4 a5 a6
  rw [hq] at a5 a6
  have hq2 : n1 + (n2 + 1) = q := by omega
  simp [evCode, evOps, evOne, evOp, evPur, evEff, evPur.chunks, fillP, AOp.isEff, AO.ev, putP, PV.cells, PV.leaf, getB, getM, mapE, iterE, keyC, mapRows, mfind, eq1, eqL, scal, binP, unP, minP, maxP, foldP, PV.lt, PV.lt.ltL, endP, expoAll, expoG, expo, expo.expoL, frIds, frIds.frIdsL, nodupN, kill, cls, clsFuel, resO, RV.get, loadP, evC_p, evC_s, endS, endT, rowsOf, callP, thinL, unfr, unfr.unfrL, PV.noMem, PV.noMem.noMemL, optI, mapO, norm, trimT, trimB, forget, hasN, blksLt, List.set, softChk, softGo, softRd, effTg, rdP, B36, eL, hq2, c1, c2, t1, t2, l1, l2, a1, a2, a3, a4, a5, a6, hp, hq, bRow, eTx]
  rw [if_pos ⟨p1, p2⟩]
def slotB : List Bk → PV
  | [] => .own 1 0 0 0
  | s => .sl false 7 (bRows s)
def S12 (l : List Td) (e : Int) (k : Nat) (s : List Bk) : St := ⟨[.sl false 10 (tRows l), .int .i64 e, .top, .top, .top, slotB s, .int .i64 k] ++ List.replicate 29 .top, [some ⟨0, 7, true, []⟩, some ⟨0, 7, true, []⟩]⟩
theorem putS_ne (b : Bk) (s : List Bk) : slotB (putS leB b s) = .sl false 7 (bRows (putS leB b s)) := by
  cases h : putS leB b s with
  | nil => have := putS_len leB b s; rw [h] at this; simp at this
  | cons x t => rfl
set_option maxRecDepth 100000 in
theorem step12 (l : List Td) (hl : l.length ≤ 1000) (e : Int) (k : Nat) (t : Td) (ht : l[k]? = some t) (s : List Bk) (hs : Srt leB s) (hsl : s.length ≤ k) (f : Nat) :
    ∃ s', evCode (evC Dg) f c12b0 (S12 l e k s) = some (.normal s') ∧ norm [0, 1, 5, 6] 2 s' = S12 l e (k + 1) (if isA t = true ∧ keepB (mkB (endM l e) t (l.drop (k + 1))) = true then putS leB (mkB (endM l e) t (l.drop (k + 1))) s else s) := by
  have hk : k < l.length := (List.getElem?_eq_some_iff.1 ht).1
  have hk' : (k : Int) < l.length := by omega
  have w1 := wrap_i64 ((k : Int) + 1) (by omega) (by omega)
  have eL := tRows_len l
  have eg := tRows_get ht
  have eg' := tRows_getE ht
  have h35 := f35 l t k ht hl e
  generalize mkB (endM l e) t (l.drop (k + 1)) = b at *
  unfold isA
  by_cases hA : t.kd = 11
  · by_cases hb : b.f < b.e
    · have hkb : keepB b = true := by unfold keepB; simp [hb]
      rw [if_pos ⟨by simp [hA], hkb⟩]
      have h36 := f36 s b hs (by omega)
      unfold S12
      rw [putS_ne]
      generalize bRows (putS leB b s) = R at *
      simp only [bRow, eTx] at h35 h36
      cases s with
      | nil =>
        simp only [bRows, List.map_nil] at h36
        unfold c12b0 slotB
        simp [evCode, evOps, evOne, evOp, evPur, evEff, evPur.chunks, fillP, AOp.isEff, AO.ev, putP, PV.cells, PV.leaf, getB, getM, mapE, iterE, keyC, mapRows, mfind, eq1, eqL, scal, binP, unP, minP, maxP, foldP, PV.lt, PV.lt.ltL, endP, expoAll, expoG, expo, expo.expoL, frIds, frIds.frIdsL, nodupN, kill, cls, clsFuel, resO, RV.get, loadP, evC_p, evC_s, endS, endT, rowsOf, callP, thinL, unfr, unfr.unfrL, PV.noMem, PV.noMem.noMemL, optI, mapO, norm, trimT, trimB, forget, hasN, blksLt, List.set, softChk, softGo, softRd, effTg, rdP, hk, hk', w1, eL, eg, eg', tRow, eTx, hA, h35, h36, hb, bRow]
      | cons x xs =>
        have eS : slotB (x :: xs) = .sl false 7 (bRows (x :: xs)) := rfl
        rw [eS]
        generalize bRows (x :: xs) = X at *
        unfold c12b0
        simp [evCode, evOps, evOne, evOp, evPur, evEff, evPur.chunks, fillP, AOp.isEff, AO.ev, putP, PV.cells, PV.leaf, getB, getM, mapE, iterE, keyC, mapRows, mfind, eq1, eqL, scal, binP, unP, minP, maxP, foldP, PV.lt, PV.lt.ltL, endP, expoAll, expoG, expo, expo.expoL, frIds, frIds.frIdsL, nodupN, kill, cls, clsFuel, resO, RV.get, loadP, evC_p, evC_s, endS, endT, rowsOf, callP, thinL, unfr, unfr.unfrL, PV.noMem, PV.noMem.noMemL, optI, mapO, norm, trimT, trimB, forget, hasN, blksLt, List.set, softChk, softGo, softRd, effTg, rdP, hk, hk', w1, eL, eg, eg', tRow, eTx, hA, h35, h36, hb, bRow]
    · have hkb : ¬ keepB b = true := by unfold keepB; simp; omega
      rw [if_neg (fun h => hkb h.2)]
      simp only [bRow, eTx] at h35
      unfold S12
      cases s with
      | nil =>
        unfold c12b0 slotB
        simp [evCode, evOps, evOne, evOp, evPur, evEff, evPur.chunks, fillP, AOp.isEff, AO.ev, putP, PV.cells, PV.leaf, getB, getM, mapE, iterE, keyC, mapRows, mfind, eq1, eqL, scal, binP, unP, minP, maxP, foldP, PV.lt, PV.lt.ltL, endP, expoAll, expoG, expo, expo.expoL, frIds, frIds.frIdsL, nodupN, kill, cls, clsFuel, resO, RV.get, loadP, evC_p, evC_s, endS, endT, rowsOf, callP, thinL, unfr, unfr.unfrL, PV.noMem, PV.noMem.noMemL, optI, mapO, norm, trimT, trimB, forget, hasN, blksLt, List.set, softChk, softGo, softRd, effTg, rdP, hk, hk', w1, eL, eg, eg', tRow, eTx, hA, h35, hb, bRow]
      | cons x xs =>
        unfold c12b0 slotB
        generalize bRows (x :: xs) = X at *
        simp [evCode, evOps, evOne, evOp, evPur, evEff, evPur.chunks, fillP, AOp.isEff, AO.ev, putP, PV.cells, PV.leaf, getB, getM, mapE, iterE, keyC, mapRows, mfind, eq1, eqL, scal, binP, unP, minP, maxP, foldP, PV.lt, PV.lt.ltL, endP, expoAll, expoG, expo, expo.expoL, frIds, frIds.frIdsL, nodupN, kill, cls, clsFuel, resO, RV.get, loadP, evC_p, evC_s, endS, endT, rowsOf, callP, thinL, unfr, unfr.unfrL, PV.noMem, PV.noMem.noMemL, optI, mapO, norm, trimT, trimB, forget, hasN, blksLt, List.set, softChk, softGo, softRd, effTg, rdP, hk, hk', w1, eL, eg, eg', tRow, eTx, hA, h35, hb, bRow]
  · rw [if_neg (fun h => hA (by simpa using h.1))]
    unfold S12
    cases s with
    | nil =>
      unfold c12b0 slotB
      simp [evCode, evOps, evOne, evOp, evPur, evEff, evPur.chunks, fillP, AOp.isEff, AO.ev, putP, PV.cells, PV.leaf, getB, getM, mapE, iterE, keyC, mapRows, mfind, eq1, eqL, scal, binP, unP, minP, maxP, foldP, PV.lt, PV.lt.ltL, endP, expoAll, expoG, expo, expo.expoL, frIds, frIds.frIdsL, nodupN, kill, cls, clsFuel, resO, RV.get, loadP, evC_p, evC_s, endS, endT, rowsOf, callP, thinL, unfr, unfr.unfrL, PV.noMem, PV.noMem.noMemL, optI, mapO, norm, trimT, trimB, forget, hasN, blksLt, List.set, softChk, softGo, softRd, effTg, rdP, hk, hk', w1, eL, eg, eg', tRow, eTx, hA]
    | cons x xs =>
      unfold c12b0 slotB
      generalize bRows (x :: xs) = X at *
      simp [evCode, evOps, evOne, evOp, evPur, evEff, evPur.chunks, fillP, AOp.isEff, AO.ev, putP, PV.cells, PV.leaf, getB, getM, mapE, iterE, keyC, mapRows, mfind, eq1, eqL, scal, binP, unP, minP, maxP, foldP, PV.lt, PV.lt.ltL, endP, expoAll, expoG, expo, expo.expoL, frIds, frIds.frIdsL, nodupN, kill, cls, clsFuel, resO, RV.get, loadP, evC_p, evC_s, endS, endT, rowsOf, callP, thinL, unfr, unfr.unfrL, PV.noMem, PV.noMem.noMemL, optI, mapO, norm, trimT, trimB, forget, hasN, blksLt, List.set, softChk, softGo, softRd, effTg, rdP, hk, hk', w1, eL, eg, eg', tRow, eTx, hA]
theorem allB_take (e : Int) (l : List Td) : ∀ (k : Nat) (t : Td), l[k]? = some t → True := fun _ _ _ => trivial
/-- the blocks whose events begin in front of a place -/
def preB (e : Int) (l : List Td) : Nat → List Bk
  | 0 => []
  | k + 1 => preB e l k ++ match l[k]? with
    | some t => if isA t = true then [mkB e t (l.drop (k + 1))] else []
    | none => []
theorem preB_cons (e : Int) (t : Td) (r : List Td) : ∀ k, preB e (t :: r) (k + 1) = (if isA t = true then [mkB e t r] else []) ++ preB e r k
  | 0 => by simp [preB]
  | k + 1 => by
    have ih := preB_cons e t r k
    have e1 : preB e (t :: r) (k + 1 + 1) = preB e (t :: r) (k + 1) ++ match (t :: r)[k + 1]? with
      | some t' => if isA t' = true then [mkB e t' ((t :: r).drop (k + 1 + 1))] else []
      | none => [] := rfl
    have e2 : preB e r (k + 1) = preB e r k ++ match r[k]? with
      | some t' => if isA t' = true then [mkB e t' (r.drop (k + 1))] else []
      | none => [] := rfl
    rw [e1, ih, e2, List.append_assoc]
    rfl
theorem preB_all (e : Int) : ∀ l : List Td, preB e l l.length = allB e l
  | [] => rfl
  | t :: r => by
    rw [List.length_cons, preB_cons, preB_all e r]
    rfl
theorem preB_len (e : Int) (l : List Td) : ∀ k, (preB e l k).length ≤ k
  | 0 => by simp [preB]
  | k + 1 => by
    have := preB_len e l k
    unfold preB
    rw [List.length_append]
    split
    · split <;> simp <;> omega
    · simp; omega
set_option maxRecDepth 100000 in
theorem f12 (l : List Td) (hl : l.length ≤ 1000) (e : Int) : ∃ p, evE Dg 12 [.sl false 10 (tRows l), .int .i64 e] = some p ∧ (p = .fr 7 (bRows (ofB l e)) ∨ p = .sl false 7 (bRows (ofB l e))) := by
  have H := fun (s0 : St) (E : Option Out) => loop_inv (body := evCode (evC Dg) 3000 c12b0) (keep := [0, 1, 5, 6]) (n0 := 2) (fuel := 3000) l (fun k s => S12 l e k s) (fun k s => s = srtS leB ((preB (endM l e) l k).filter keepB)) (fun _ => False) (by
    intro k t s ht hk hs
    left
    have hsrt : Srt leB s := by rw [hs]; exact (srtS_SSt leB_ord _).1
    have hsl : s.length ≤ k := by
      rw [hs, srtS_len]
      exact Nat.le_trans (List.length_filter_le _ _) (preB_len _ l k)
    obtain ⟨s', h1, h2⟩ := step12 l hl e k t ht s hsrt hsl 3000
    refine ⟨_, s', h1, h2, ?_⟩
    have e1 : preB (endM l e) l (k + 1) = preB (endM l e) l k ++ if isA t = true then [mkB (endM l e) t (l.drop (k + 1))] else [] := by
      show preB (endM l e) l k ++ (match l[k]? with
        | some t => if isA t = true then [mkB (endM l e) t (l.drop (k + 1))] else []
        | none => []) = _
      rw [ht]
    rw [e1, List.filter_append]
    by_cases hA : isA t = true
    · rw [if_pos hA]
      by_cases hK : keepB (mkB (endM l e) t (l.drop (k + 1))) = true
      · rw [if_pos ⟨hA, hK⟩, List.filter_cons_of_pos hK, List.filter_nil, srtS_snoc, hs]
      · rw [if_neg (fun h => hK h.2), List.filter_cons_of_neg hK, List.filter_nil, List.append_nil, hs]
    · rw [if_neg (fun h => hA h.1), if_neg hA, List.filter_nil, List.append_nil, hs]) (by
    intro s _ s'
    have eL := tRows_len l
    unfold c12b0
    simp [evCode, evOps, evOne, evOp, evPur, evEff, evPur.chunks, fillP, AOp.isEff, AO.ev, putP, PV.cells, PV.leaf, getB, getM, mapE, iterE, keyC, mapRows, mfind, eq1, eqL, scal, binP, unP, minP, maxP, foldP, PV.lt, PV.lt.ltL, endP, expoAll, expoG, expo, expo.expoL, frIds, frIds.frIdsL, nodupN, kill, cls, clsFuel, resO, RV.get, loadP, evC_p, evC_s, endS, endT, rowsOf, callP, thinL, unfr, unfr.unfrL, PV.noMem, PV.noMem.noMemL, optI, mapO, norm, trimT, trimB, forget, hasN, blksLt, List.set, softChk, softGo, softRd, effTg, rdP, S12, eL]) (by omega) [] rfl s0 E
  have eL := tRows_len l
  suffices h : evE Dg 12 [.sl false 10 (tRows l), .int .i64 e] = some (match ofB l e with | [] => .fr 7 [] | s => .sl false 7 (bRows s)) by
    refine ⟨_, h, ?_⟩
    cases ofB l e with
    | nil => exact .inl rfl
    | cons x t => exact .inr rfl
  refine evE_intro 3000 D12 rfl ?_
  unfold c12
  simp [evCode, evOps, evOne, evOp, evPur, evEff, evPur.chunks, fillP, AOp.isEff, AO.ev, putP, PV.cells, PV.leaf, getB, getM, mapE, iterE, keyC, mapRows, mfind, eq1, eqL, scal, binP, unP, minP, maxP, foldP, PV.lt, PV.lt.ltL, endP, expoAll, expoG, expo, expo.expoL, frIds, frIds.frIdsL, nodupN, kill, cls, clsFuel, resO, RV.get, loadP, evC_p, evC_s, endS, endT, rowsOf, callP, thinL, unfr, unfr.unfrL, PV.noMem, PV.noMem.noMemL, optI, mapO, norm, trimT, trimB, forget, hasN, blksLt, List.set, softChk, softGo, softRd, effTg, rdP]
  generalize hE : evLoop (evCode (evC Dg) 3000 c12b0) [0, 1, 5, 6] 2 3000 _ = E
  rcases H _ E hE (by simp [evCode, evOps, evOne, evOp, evPur, evEff, evPur.chunks, fillP, AOp.isEff, AO.ev, putP, PV.cells, PV.leaf, getB, getM, mapE, iterE, keyC, mapRows, mfind, eq1, eqL, scal, binP, unP, minP, maxP, foldP, PV.lt, PV.lt.ltL, endP, expoAll, expoG, expo, expo.expoL, frIds, frIds.frIdsL, nodupN, kill, cls, clsFuel, resO, RV.get, loadP, evC_p, evC_s, endS, endT, rowsOf, callP, thinL, unfr, unfr.unfrL, PV.noMem, PV.noMem.noMemL, optI, mapO, norm, trimT, trimB, forget, hasN, blksLt, List.set, softChk, softGo, softRd, effTg, rdP, S12, slotB]) with ⟨s, hs, rfl⟩ | ⟨s, _, h⟩
  · rw [preB_all] at hs
    have : s = ofB l e := hs
    rw [← this]
    clear hE H hs this
    cases s with
    | nil =>
      unfold c12b0 S12 slotB
      simp [evCode, evOps, evOne, evOp, evPur, evEff, evPur.chunks, fillP, AOp.isEff, AO.ev, putP, PV.cells, PV.leaf, getB, getM, mapE, iterE, keyC, mapRows, mfind, eq1, eqL, scal, binP, unP, minP, maxP, foldP, PV.lt, PV.lt.ltL, endP, expoAll, expoG, expo, expo.expoL, frIds, frIds.frIdsL, nodupN, kill, cls, clsFuel, resO, RV.get, loadP, evC_p, evC_s, endS, endT, rowsOf, callP, thinL, unfr, unfr.unfrL, PV.noMem, PV.noMem.noMemL, optI, mapO, norm, trimT, trimB, forget, hasN, blksLt, List.set, softChk, softGo, softRd, effTg, rdP, eL]
    | cons x t =>
      unfold c12b0 S12 slotB
      generalize bRows (x :: t) = X
      simp [evCode, evOps, evOne, evOp, evPur, evEff, evPur.chunks, fillP, AOp.isEff, AO.ev, putP, PV.cells, PV.leaf, getB, getM, mapE, iterE, keyC, mapRows, mfind, eq1, eqL, scal, binP, unP, minP, maxP, foldP, PV.lt, PV.lt.ltL, endP, expoAll, expoG, expo, expo.expoL, frIds, frIds.frIdsL, nodupN, kill, cls, clsFuel, resO, RV.get, loadP, evC_p, evC_s, endS, endT, rowsOf, callP, thinL, unfr, unfr.unfrL, PV.noMem, PV.noMem.noMemL, optI, mapO, norm, trimT, trimB, forget, hasN, blksLt, List.set, softChk, softGo, softRd, effTg, rdP, eL]
  · exact h.elim
end Go.Proofs.Ytalmhggbdfjalaa
