/- itree: the reference's greatest ends. -/
import Derived.Test.YtkodjmlhmpokoaaItB
namespace Go.Proofs.Ytkodjmlhmpokoaa
open Go Go.RowKit
set_option linter.unusedVariables false
set_option linter.unusedSimpArgs false
set_option maxHeartbeats 4000000

theorem norm_le {keep : List Nat} {n0 : Nat} {sl : List PV} {bl : Blks} (hb : bl.length ≤ n0) : norm keep n0 ⟨sl, bl⟩ = ⟨forget keep 0 sl, bl⟩ := by
  have ht : bl.take n0 = bl := List.take_of_length_le hb
  have hT : trimT (forget keep 0 sl) bl (bl.length - n0) n0 = n0 := by
    rw [show bl.length - n0 = 0 by omega]; rfl
  unfold norm
  simp only [hT]
  unfold trimB
  rw [ht]
  split <;> rfl
theorem endT_push {N : Nat} {bl : Blks} {y : Option Blk} (h1 : bl.length = N) (h2 : blksLt N bl = true) : endT N (.tup []) (bl ++ [y]) = (.tup [], bl) := by
  have ht : (bl ++ [y]).take N = bl := by rw [← h1]; simp
  unfold endT norm trimB
  simp only [List.length_append, List.length_singleton, h1, show N + 1 - N = 1 by omega]
  have hl : PV.lt.ltL N (forget [0] 0 [PV.tup []]) = true := rfl
  have hT : trimT (forget [0] 0 [PV.tup []]) (bl ++ [y]) 1 N = N := by
    unfold trimT
    rw [ht, hl, h2]
    rfl
  rw [hT, ht, hl, h2]
  rfl
structure Fam (b1 b2 n : Nat) (o : List Nat) (N : Nat) (G : List Int → Blks) : Prop where
  len : ∀ m, (G m).length = N
  g1 : ∀ m, (G m)[b1]? = some (some ⟨n, 1, true, nR o⟩)
  g2 : ∀ m, (G m)[b2]? = some (some ⟨n, 1, true, iR m⟩)
  st : ∀ m m', (G m).set b2 (some ⟨n, 1, true, iR m'⟩) = G m'
  lt : ∀ m k, N ≤ k → blksLt k (G m) = true
  l1 : b1 < N
  l2 : b2 < N
def boxB (b1 b2 n : Nat) : Blk := ⟨1, 2, false, [[.own b1 n 0 n, .own b2 n 0 n]]⟩
theorem blksLt_app (k : Nat) : ∀ {a b : Blks}, blksLt k a = true → blksLt k b = true → blksLt k (a ++ b) = true
  | [], b, _, h => h
  | none :: a, b, h1, h => by
    simp only [blksLt, List.cons_append] at h1 ⊢
    exact blksLt_app k h1 h
  | some x :: a, b, h1, h => by
    simp only [blksLt, List.cons_append, Bool.and_eq_true] at h1 ⊢
    exact ⟨h1.1, blksLt_app k h1.2 h⟩
theorem blt_of {a b : Nat} (h : a < b) : Nat.blt a b = true := by simpa [Nat.blt_eq] using h
theorem Fam.push {b1 b2 n N : Nat} {o : List Nat} {G : List Int → Blks} (h : Fam b1 b2 n o N G) : Fam b1 b2 n o (N + 1) (fun m => G m ++ [some (boxB b1 b2 n)]) where
  len m := by simp [h.len]
  g1 m := by rw [List.getElem?_append_left (by rw [h.len]; exact h.l1)]; exact h.g1 m
  g2 m := by rw [List.getElem?_append_left (by rw [h.len]; exact h.l2)]; exact h.g2 m
  st m m' := by rw [List.set_append_left _ _ (by rw [h.len]; exact h.l2), h.st]
  lt m k hk := by
    have q1 : Nat.blt b1 k = true := blt_of (by have := h.l1; omega)
    have q2 : Nat.blt b2 k = true := blt_of (by have := h.l2; omega)
    exact blksLt_app k (h.lt m k (by omega)) (by simp [blksLt, boxB, PV.lt.ltL, PV.lt, q1, q2])
  l1 := Nat.lt_succ_of_lt h.l1
  l2 := Nat.lt_succ_of_lt h.l2
/-- the end at a position -/
def endN (l : List Sp) (o : List Nat) (p : Nat) : Int := match o[p]? with
  | some i => match l[i]? with
    | some s => s.2
    | none => 0
  | none => 0
def vAt (e : Nat → Int) (lo : Nat) : Nat → Int
  | 0 => e lo
  | k + 1 => if vAt e lo k < e (lo + k) then e (lo + k) else vAt e lo k
def grt (e : Nat → Int) : Nat → Nat → Nat → List Int → List Int
  | 0, _, _, m => m
  | f + 1, lo, hi, m => if hi ≤ lo then m else grt e f ((lo + hi) / 2 + 1) hi (grt e f lo ((lo + hi) / 2) (m.set ((lo + hi) / 2) (vAt e lo (hi - lo))))
theorem grt_len (e : Nat → Int) : ∀ f lo hi m, (grt e f lo hi m).length = m.length
  | 0, _, _, m => rfl
  | f + 1, lo, hi, m => by
    unfold grt
    split
    · rfl
    · rw [grt_len e f, grt_len e f]; simp
def S29 (x : Bool) (l : List Sp) (lo hi N r : Nat) (v : Int) (p : Nat) (bl : Blks) : St := ⟨[eS x l, .top, .int .i64 lo, .int .i64 hi, .top, .ptr N 1 0 0, .top, .top, .int .i64 r, .int .i64 v, .int .i64 p] ++ List.replicate 49 .top, bl⟩
def R29 (x : Bool) (l : List Sp) (lo hi N r : Nat) (v : Int) (bl : Blks) (o : Out) : Prop := ∃ z28 z29 z30, o = .exit 0 ⟨[eS x l, .top, .int .i64 lo, .int .i64 hi, .top, .ptr N 1 0 0, .top, .top, .int .i64 r, .int .i64 v, .int .i64 hi] ++ List.replicate 17 .top ++ [z28, z29, z30] ++ List.replicate 29 .top, bl⟩
set_option maxRecDepth 100000 in
theorem loop29 (x : Bool) (l : List Sp) (o : List Nat) (b1 b2 n lo hi N r fu fuel : Nat) (G : List Int → Blks) (hG : Fam b1 b2 n o N G) (m : List Int) (hl : l.length ≤ 1000000) (ho : o.length = n) (hn : n ≤ 1000000) (hm : ∀ i ∈ o, i < l.length) (hlh : lo < hi) (hhn : hi ≤ n) (hf : hi - lo < fuel) :
    ∀ s0 E, evLoop (evCode (evC Dg) fu c29b0) [0, 2, 3, 5, 8, 9, 10] (N + 1) fuel s0 = E → norm [0, 2, 3, 5, 8, 9, 10] (N + 1) s0 = S29 x l lo hi N r (endN l o lo) lo (G m ++ [some (boxB b1 b2 n)]) →
      ∃ out, E = some out ∧ R29 x l lo hi N r (vAt (endN l o) lo (hi - lo)) (G m ++ [some (boxB b1 b2 n)]) out := by
  intro s0 E hE h0
  have hP := hG.push
  have p1 : (G m ++ [some (boxB b1 b2 n)]).length = N + 1 := hP.len m
  have p2 : (G m ++ [some (boxB b1 b2 n)])[b1]? = some (some ⟨n, 1, true, nR o⟩) := hP.g1 m
  have p3 : (G m ++ [some (boxB b1 b2 n)])[N]? = some (some ⟨1, 2, false, [[.own b1 n 0 n, .own b2 n 0 n]]⟩) := by rw [← hG.len m]; simp [boxB]
  generalize G m ++ [some (boxB b1 b2 n)] = bl at *
  have p2g : ∀ q, bl[b1]'q = some ⟨n, 1, true, nR o⟩ := fun q => by
    rw [List.getElem?_eq_getElem q] at p2
    exact Option.some.inj p2
  have p3g : ∀ q, bl[N]'q = some ⟨1, 2, false, [[.own b1 n 0 n, .own b2 n 0 n]]⟩ := fun q => by
    rw [List.getElem?_eq_getElem q] at p3
    exact Option.some.inj p3
  have H := loop_while (body := evCode (evC Dg) fu c29b0) (keep := [0, 2, 3, 5, 8, 9, 10]) (n0 := N + 1) (fuel := fuel) (fun p => S29 x l lo hi N r (vAt (endN l o) lo (p - lo)) p bl) (fun p => hi - p) (fun p => lo ≤ p ∧ p ≤ hi) (R29 x l lo hi N r (vAt (endN l o) lo (hi - lo)) bl)
    (by
      rintro p ⟨hp1, hp2⟩
      by_cases hpe : p = hi
      · right
        subst hpe
        unfold c29b0
        simp [evCode, evOps, evOne, evOp, evPur, evEff, evPur.chunks, fillP, AOp.isEff, AO.ev, putP, PV.cells, PV.leaf, getB, getM, mapE, iterE, keyC, mapRows, mfind, eq1, eqL, scal, binP, unP, minP, maxP, foldP, PV.lt, PV.lt.ltL, endP, expoAll, expoG, expo, expo.expoL, frIds, frIds.frIdsL, nodupN, kill, cls, clsFuel, resO, RV.get, loadP, evC_p, evC_s, endS, endT, rowsOf, callP, thinL, unfr, unfr.unfrL, PV.noMem, PV.noMem.noMemL, optI, mapO, norm, trimT, trimB, forget, hasN, blksLt, List.set, softChk, softGo, softRd, effTg, rdP, S29, R29]
      · left
        have hpl : p < o.length := by omega
        have hop : o[p]? = some o[p] := List.getElem?_eq_getElem hpl
        have hil : o[p] < l.length := hm _ (List.getElem_mem _)
        have hsl : l[o[p]]? = some l[o[p]] := List.getElem?_eq_getElem hil
        have hend : endN l o p = (l[o[p]]).2 := by unfold endN; rw [hop]; simp only; rw [hsl]
        generalize l[o[p]] = s at *
        generalize o[p] = i at *
        have hlt : (p : Int) < hi := by omega
        have hpn : p < n := by omega
        have hpn' : (p : Int) < n := by omega
        have hil' : (i : Int) < l.length := by omega
        have w1 := wrap_i64 ((p : Int) + 1) (by omega) (by omega)
        have r1 := nR_get hop
        have g1 := nR_got hop
        have r2 := spRows_get hsl
        have g2 := spRows_got hsl
        have eL := nR_len o
        have e1 := spRows_len l
        refine ⟨p + 1, ?_⟩
        have J : (lo ≤ p + 1 ∧ p + 1 ≤ hi) ∧ hi - (p + 1) < hi - p := by omega
        refine (fun ⟨s', q1, q2⟩ => ⟨s', q1, q2, J⟩ : (∃ s', _ ∧ _) → _) ?_
        have hv : vAt (endN l o) lo (p + 1 - lo) = if vAt (endN l o) lo (p - lo) < s.2 then s.2 else vAt (endN l o) lo (p - lo) := by
          rw [show p + 1 - lo = (p - lo) + 1 by omega]
          simp only [vAt]
          rw [show lo + (p - lo) = p by omega, hend]
        rw [hv]
        generalize vAt (endN l o) lo (p - lo) = v at *
        apply NormTo.mk
        unfold c29b0
        simp [evCode, evOps, evOne, evOp, evPur, evEff, evPur.chunks, fillP, AOp.isEff, AO.ev, putP, PV.cells, PV.leaf, getB, getM, mapE, iterE, keyC, mapRows, mfind, eq1, eqL, scal, binP, unP, minP, maxP, foldP, PV.lt, PV.lt.ltL, endP, expoAll, expoG, expo, expo.expoL, frIds, frIds.frIdsL, nodupN, kill, cls, clsFuel, resO, RV.get, loadP, evC_p, evC_s, endS, endT, rowsOf, callP, thinL, unfr, unfr.unfrL, PV.noMem, PV.noMem.noMemL, optI, mapO, norm, trimT, trimB, forget, hasN, blksLt, List.set, softChk, softGo, softRd, effTg, rdP, S29, eS, e1, eL, ho, hlt, hpn, hpn', hpl, hil, hil', w1, r1, g1, r2, g2, p1, p2, p3, p2g, p3g]
        unfold NormTo
        rw [norm_le (by omega)]
        simp [forget, hasN])
    lo ⟨Nat.le_refl _, by omega⟩ hf s0 E hE (by rw [Nat.sub_self]; exact h0)
  exact H
set_option maxRecDepth 100000 in
theorem f29 (x : Bool) (l : List Sp) (o : List Nat) (b1 b2 n : Nat) (hl : l.length ≤ 1000000) (ho : o.length = n) (hn : n ≤ 1000000) (hm : ∀ i ∈ o, i < l.length) : ∀ (f lo hi : Nat), hi - lo ≤ f → hi ≤ n → lo ≤ 1000001 → ∀ N G m, Fam b1 b2 n o N G → m.length = n →
    evS Dg 29 [eS x l, .agg [.own b1 n 0 n, .own b2 n 0 n], .int .i64 lo, .int .i64 hi] (G m) = some (.tup [], G (grt (endN l o) f lo hi m)) := by
  have base : ∀ (lo hi : Nat), hi ≤ lo → hi ≤ n → lo ≤ 1000001 → ∀ N G m, Fam b1 b2 n o N G → m.length = n →
      evS Dg 29 [eS x l, .agg [.own b1 n 0 n, .own b2 n 0 n], .int .i64 lo, .int .i64 hi] (G m) = some (.tup [], G m) := by
    intro lo hi hh hhn hlo N G m hG hml
    refine evS_intro 1 D29 rfl ?_
    have h1 : (hi : Int) ≤ lo := by omega
    have p0 := hG.len m
    have q0 := hG.lt m N (Nat.le_refl _)
    have hb0 : ∀ b, Nat.blt b 0 = false := fun b => by cases b <;> rfl
    have ht : ∀ y, (G m ++ [y]).take N = G m := fun y => by rw [← p0]; simp
    unfold c29
    generalize G m = bl at *
    simp [evCode, evOps, evOne, evOp, evPur, evEff, evPur.chunks, fillP, AOp.isEff, AO.ev, putP, PV.cells, PV.leaf, getB, getM, mapE, iterE, keyC, mapRows, mfind, eq1, eqL, scal, binP, unP, minP, maxP, foldP, PV.lt, PV.lt.ltL, endP, expoAll, expoG, expo, expo.expoL, frIds, frIds.frIdsL, nodupN, kill, cls, clsFuel, resO, RV.get, loadP, evC_p, evC_s, endS, endT, rowsOf, callP, thinL, unfr, unfr.unfrL, PV.noMem, PV.noMem.noMemL, optI, mapO, norm, trimT, trimB, forget, hasN, blksLt, List.set, softChk, softGo, softRd, effTg, rdP, eS, h1, p0, q0, hb0, ht]
  intro f
  induction f with
  | zero => exact fun lo hi h1 h2 h3 N G m hG hml => base lo hi (by omega) h2 h3 N G m hG hml
  | succ f ih =>
    intro lo hi h1 h2 h3 N G m hG hml
    by_cases hh : hi ≤ lo
    · have hg : grt (endN l o) (f + 1) lo hi m = m := by unfold grt; rw [if_pos hh]
      rw [hg]
      exact base lo hi hh h2 h3 N G m hG hml
    · have hg : grt (endN l o) (f + 1) lo hi m = grt (endN l o) f ((lo + hi) / 2 + 1) hi (grt (endN l o) f lo ((lo + hi) / 2) (m.set ((lo + hi) / 2) (vAt (endN l o) lo (hi - lo)))) := by
        rw [grt, if_neg hh]
      rw [hg]
      have hL := loop29 x l o b1 b2 n lo hi N ((lo + hi) / 2) (n + 2) (n + 2) G hG m hl ho hn hm (by omega) h2 (by omega)
      have w1 := wrap_i64 ((lo : Int) + hi) (by omega) (by omega)
      have hr : Int.tdiv ((lo : Int) + hi) 2 = (((lo + hi) / 2 : Nat) : Int) := by
        rw [Int.tdiv_eq_ediv_of_nonneg (by omega)]; omega
      have hr1 : lo ≤ (lo + hi) / 2 := by omega
      have hr2 : (lo + hi) / 2 < hi := by omega
      generalize hre : (lo + hi) / 2 = r at *
      have w2 := wrap_i64 (r : Int) (by omega) (by omega)
      have w3 := wrap_i64 ((r : Int) + 1) (by omega) (by omega)
      have hF := hG.push
      have hF0 : G m ++ [some ⟨1, 2, false, [[.own b1 n 0 n, .own b2 n 0 n]]⟩] = (fun m => G m ++ [some (boxB b1 b2 n)]) m := rfl
      have hF1 : G m ++ [some (boxB b1 b2 n)] = (fun m => G m ++ [some (boxB b1 b2 n)]) m := rfl
      have hF2 : ∀ m, ((fun m => G m ++ [some (boxB b1 b2 n)]) m)[N]? = some (some ⟨1, 2, false, [[.own b1 n 0 n, .own b2 n 0 n]]⟩) := fun m => by simp only; rw [← hG.len m]; simp [boxB]
      have hF3 : ∀ m, ((fun m => G m ++ [some (boxB b1 b2 n)]) m).take N = G m := fun m => by simp only; rw [← hG.len m]; simp
      rw [hF1] at hL
      generalize (fun m => G m ++ [some (boxB b1 b2 n)]) = F at *
      have p0 := hG.len m
      have p1 := hF.len
      have p2 := hF.g1
      have p3 := hF.g2
      have p4 := hF.st
      have p5 := fun m => hG.lt m N (Nat.le_refl _)
      have p2g : ∀ m q, (F m)[b1]'q = some ⟨n, 1, true, nR o⟩ := fun m q => by
        have := p2 m
        rw [List.getElem?_eq_getElem q] at this
        exact Option.some.inj this
      have p3g : ∀ m q, (F m)[b2]'q = some ⟨n, 1, true, iR m⟩ := fun m q => by
        have := p3 m
        rw [List.getElem?_eq_getElem q] at this
        exact Option.some.inj this
      have p6g : ∀ m q, (F m)[N]'q = some ⟨1, 2, false, [[.own b1 n 0 n, .own b2 n 0 n]]⟩ := fun m q => by
        have := hF2 m
        rw [List.getElem?_eq_getElem q] at this
        exact Option.some.inj this
      generalize hv : vAt (endN l o) lo (hi - lo) = v at *
      have ml1 : (m.set r v).length = n := by simp [hml]
      have i1 := ih lo r (by omega) (by omega) (by omega) _ F (m.set r v) hF ml1
      have ml2 : (grt (endN l o) f lo r (m.set r v)).length = n := by rw [grt_len]; exact ml1
      generalize grt (endN l o) f lo r (m.set r v) = m2 at *
      have i2 := ih (r + 1) hi (by omega) (by omega) (by omega) _ F m2 hF ml2
      generalize grt (endN l o) f (r + 1) hi m2 = m3 at *
      have hop : o[lo]? = some o[lo] := List.getElem?_eq_getElem (by omega)
      have hil : o[lo] < l.length := hm _ (List.getElem_mem _)
      have hsl : l[o[lo]]? = some l[o[lo]] := List.getElem?_eq_getElem hil
      have hend : endN l o lo = (l[o[lo]]).2 := by unfold endN; rw [hop]; simp only; rw [hsl]
      generalize l[o[lo]] = s at *
      generalize o[lo] = i at *
      have hlt : (lo : Int) < hi := by omega
      have hnle : ¬ ((hi : Int) ≤ lo) := by omega
      have hpn : lo < n := by omega
      have hpn' : (lo : Int) < n := by omega
      have hrn : r < n := by omega
      have hrn' : (r : Int) < n := by omega
      have hil' : (i : Int) < l.length := by omega
      have r1 := nR_get hop
      have g1 := nR_got hop
      have r2 := spRows_get hsl
      have g2 := spRows_got hsl
      have eL := nR_len o
      have eM := iR_len
      have e1 := spRows_len l
      have iS := iR_set
      have hb0 : ∀ b, Nat.blt b 0 = false := fun b => by cases b <;> rfl
      have hmr : m[r]? = some m[r] := List.getElem?_eq_getElem (by omega)
      have g3 := iR_got hmr
      have r3 := iR_get hmr
      have vf : ∀ (d : List Int), (iR d).all (PV.lt.ltL 0) = true := fun d => by
        rw [List.all_eq_true]
        intro y hy
        simp only [iR, List.mem_map] at hy
        obtain ⟨z, _, rfl⟩ := hy
        rfl
      simp only [eS, Int.natCast_add, Int.cast_ofNat_Int] at i1 i2
      refine evS_intro (n + 2) D29 rfl ?_
      unfold c29
      simp [evCode, evOps, evOne, evOp, evPur, evEff, evPur.chunks, fillP, AOp.isEff, AO.ev, putP, PV.cells, PV.leaf, getB, getM, mapE, iterE, keyC, mapRows, mfind, eq1, eqL, scal, binP, unP, minP, maxP, foldP, PV.lt, PV.lt.ltL, endP, expoAll, expoG, expo, expo.expoL, frIds, frIds.frIdsL, nodupN, kill, cls, clsFuel, resO, RV.get, loadP, evC_p, evC_s, endS, endT, rowsOf, callP, thinL, unfr, unfr.unfrL, PV.noMem, PV.noMem.noMemL, optI, mapO, norm, trimT, trimB, forget, hasN, blksLt, List.set, softChk, softGo, softRd, effTg, rdP, eS, e1, eL, eM, ho, hlt, hnle, hpn, hpn', hil, hil', w1, hr, w2, r1, g1, r2, g2, p0, p1, p2, p3, p2g, p3g, p6g, hb0, hF0, hF2]
      generalize hE : evLoop _ _ _ _ _ = E
      obtain ⟨out, rfl, z28, z29, z30, rfl⟩ := hL _ E hE (by
        rw [norm_le (by rw [p1]; exact Nat.le_refl _)]
        simp [forget, hasN, S29, eS, hend])
      unfold c29r0
      simp [evCode, evOps, evOne, evOp, evPur, evEff, evPur.chunks, fillP, AOp.isEff, AO.ev, putP, PV.cells, PV.leaf, getB, getM, mapE, iterE, keyC, mapRows, mfind, eq1, eqL, scal, binP, unP, minP, maxP, foldP, PV.lt, PV.lt.ltL, endP, expoAll, expoG, expo, expo.expoL, frIds, frIds.frIdsL, nodupN, kill, cls, clsFuel, resO, RV.get, loadP, evC_p, evC_s, endS, endT, rowsOf, callP, thinL, unfr, unfr.unfrL, PV.noMem, PV.noMem.noMemL, optI, mapO, norm, trimT, trimB, forget, hasN, blksLt, List.set, softChk, softGo, softRd, effTg, rdP, eS, e1, eL, eM, ho, hml, hlt, hnle, hrn, hrn', hil, hil', hr, w2, w3, p0, p1, p2, p3, p4, p5, p2g, p3g, p6g, hb0, hF0, hF2, hF3, iS, g3, r3, vf, i1, i2]
end Go.Proofs.Ytkodjmlhmpokoaa
