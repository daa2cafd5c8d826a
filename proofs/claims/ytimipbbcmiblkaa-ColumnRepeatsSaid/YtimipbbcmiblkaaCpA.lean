/- column: the reader's dictionary: the words. -/
import Derived.Test.YtimipbbcmiblkaaCoZ
namespace Go.Proofs.Ytimipbbcmiblkaa
open Go Go.RowKit
set_option linter.unusedVariables false
set_option linter.unusedSimpArgs false
set_option maxHeartbeats 4000000

def S41w (G : List Nat → Bool → Blks) (e N n : Nat) (c : Int) (q : Rs) : St := ⟨[.ptr e 1 0 0, .int .i64 (n : Int), .top, .top, .top, .own (N + 1) q.1.length 0 q.1.length, .int .i64 c] ++ List.replicate 58 .top, G q.2.1 q.2.2 ++ [nB3, oB q.1]⟩
def R41w (G : List Nat → Bool → Blks) (e N n : Nat) (c : Int) (q : Rs) (o : Out) : Prop := ∃ z17 z18 z19 z20 z21 z22 z23 z24 z25 z26 z27, o = .exit 0 ⟨[.ptr e 1 0 0, .int .i64 (n : Int), .top, .top, .top, .own (N + 1) q.1.length 0 q.1.length, .int .i64 c, .top, .top, .top, .top, .top, .top, .top, .top, .top, .top, z17, z18, z19, z20, z21, z22, z23, z24, z25, z26, z27] ++ List.replicate 37 .top, G q.2.1 q.2.2 ++ [nB3, oB q.1]⟩
set_option maxRecDepth 100000 in
theorem loop41w (e N : Nat) (G : List Nat → Bool → Blks) (hG : Rd2 e N G) (n : Nat) (c : Int) (fu fuel : Nat) (hf0 : 0 < fuel) (L0 : List Nat) (f0 : Bool) (hc : f0 = true ∨ (c.toNat ≤ 20000 ∧ c.toNat < fuel)) (hl0 : L0.length ≤ 1000000) (ok0 : okB L0) :
    ∀ s0 E, evLoop (evCode (evC Dg) fu c41b1) [0, 1, 5, 6] (N + 2) fuel s0 = E → norm [0, 1, 5, 6] (N + 2) s0 = S41w G e N n c ([], L0, f0) → ∃ out, E = some out ∧ R41w G e N n c (plD c.toNat c.toNat ([], L0, f0)) out := by
  intro s0 E hE h0
  have gl := hG.len
  have he := hG.he
  have hb0 : ∀ b, Nat.blt b 0 = false := fun b => by cases b <;> rfl
  have H := loop_while (body := evCode (evC Dg) fu c41b1) (keep := [0, 1, 5, 6]) (n0 := N + 2) (fuel := fuel) (S41w G e N n c) (fun q => if q.2.2 = true then 0 else c.toNat - q.1.length) (fun q => q.1.length ≤ c.toNat ∧ (q.2.2 = true ∨ c.toNat ≤ 20000) ∧ okB q.2.1 ∧ q.2.1.length ≤ 1000000 ∧ plD c.toNat c.toNat ([], L0, f0) = plD c.toNat (c.toNat - q.1.length) q) (R41w G e N n c (plD c.toNat c.toNat ([], L0, f0)))
    (by
      rintro ⟨o, L, f⟩ ⟨ho, hcf, ok, hL, hp⟩
      simp only at ho hcf ok hL hp
      have g1 : ∀ y : Blks, (G L f ++ y)[e]? = some (some ⟨1, 2, true, [[.sl false 1 (bR L), .bool f]]⟩) := fun y => by
        rw [List.getElem?_append_left (by rw [gl]; exact he)]; exact hG.get L f
      have g2 := fun y => got_of (g1 y)
      have eo := vRows_len o
      have heN : ∀ k, e < N + k := fun k => by omega
      by_cases cc : o.length < c.toNat ∧ f = false
      · left
        obtain ⟨c1, rfl⟩ := cc
        have c20 : c.toNat ≤ 20000 := by rcases hcf with h | h; cases h; exact h
        have hk : c.toNat - o.length = (c.toNat - (o.length + 1)) + 1 := by omega
        rw [hk, plD, if_pos ⟨c1, rfl⟩] at hp
        have h49 := f49 e (N + 2) _ (hG.app [nB3, oB o] (flatO o)) L false hL ok
        obtain ⟨v1, v2⟩ := valD_ok ok
        simp only [Bool.false_or] at h49
        simp only at hp
        generalize valD L = d at *
        obtain ⟨v, L', f'⟩ := d
        simp only at h49 hp v1 v2
        have J : (o ++ [v]).length ≤ c.toNat ∧ (f' = true ∨ c.toNat ≤ 20000) ∧ okB L' ∧ L'.length ≤ 1000000 ∧ plD c.toNat c.toNat ([], L0, f0) = plD c.toNat (c.toNat - (o ++ [v]).length) (o ++ [v], L', f') := ⟨by simp; omega, .inr c20, v1, by omega, by rw [hp]; simp⟩
        have K : (if f' = true then 0 else c.toNat - (o ++ [v]).length) < (if (false : Bool) = true then 0 else c.toNat - o.length) := by
          have hl : (o ++ [v]).length = o.length + 1 := by simp
          rw [hl]
          cases f'
          · show c.toNat - (o.length + 1) < c.toNat - o.length
            omega
          · show 0 < c.toNat - o.length
            omega
        refine ⟨(o ++ [v], L', f'), ?_⟩
        refine (fun ⟨s', q1, q2⟩ => ⟨s', q1, q2, J, K⟩ : (∃ s', _ ∧ _) → _) ?_
        have c1' : (o.length : Int) < c := by omega
        have va := vRows_app o v
        have m1 : (o.length + 1) * 32 ≤ 140737488355328 := by omega
        have m2 : o.length + 1 ≤ 140737488355328 := by omega
        have gb := hG.fl L' f' (N + 2) (by omega)
        have tk : ∀ y : Blks, y.length = 2 → (G L' f' ++ y).take (N + 2) = G L' f' ++ y := fun y hy => List.take_of_length_le (by rw [List.length_append, gl, hy]; exact Nat.le_refl _)
        have bt : Nat.blt e (N + 2) = true := blt_of (by omega)
        have bt2 : Nat.blt (N + 1) (N + 2) = true := blt_of (by omega)
        simp only [vP, nB3, oB] at h49
        unfold c41b1
        simp [evCode, evOps, evOne, evOp, evPur, evEff, evPur.chunks, fillP, AOp.isEff, AO.ev, putP, PV.cells, PV.leaf, getB, getM, mapE, iterE, keyC, mapRows, mfind, eq1, eqL, scal, binP, unP, minP, maxP, foldP, PV.lt, PV.lt.ltL, endP, expoAll, expoG, expo, expo.expoL, frIds, frIds.frIdsL, nodupN, kill, cls, clsFuel, resO, RV.get, loadP, evC_p, evC_s, endS, endT, rowsOf, callP, thinL, unfr, unfr.unfrL, PV.noMem, PV.noMem.noMemL, optI, mapO, norm, trimT, trimB, forget, hasN, blksLt, List.set, softChk, softGo, softRd, effTg, rdP, S41w, nB3, oB, gl, g1, g2, eo, heN, c1', h49, va, m1, m2, hb0, gb, tk, bt, bt2]
      · right
        have hz : plD c.toNat (c.toNat - o.length) (o, L, f) = (o, L, f) := by
          cases hk : c.toNat - o.length with
          | zero => rfl
          | succ k => rw [plD, if_neg cc]
        rw [hp, hz]
        by_cases c1 : o.length < c.toNat
        · have cf : f = true := by cases f with
            | true => rfl
            | false => exact absurd ⟨c1, rfl⟩ cc
          subst cf
          have c1' : (o.length : Int) < c := by omega
          unfold c41b1
          simp [evCode, evOps, evOne, evOp, evPur, evEff, evPur.chunks, fillP, AOp.isEff, AO.ev, putP, PV.cells, PV.leaf, getB, getM, mapE, iterE, keyC, mapRows, mfind, eq1, eqL, scal, binP, unP, minP, maxP, foldP, PV.lt, PV.lt.ltL, endP, expoAll, expoG, expo, expo.expoL, frIds, frIds.frIdsL, nodupN, kill, cls, clsFuel, resO, RV.get, loadP, evC_p, evC_s, endS, endT, rowsOf, callP, thinL, unfr, unfr.unfrL, PV.noMem, PV.noMem.noMemL, optI, mapO, norm, trimT, trimB, forget, hasN, blksLt, List.set, softChk, softGo, softRd, effTg, rdP, S41w, R41w, nB3, oB, gl, g1, g2, eo, heN, c1']
        · have c1' : ¬ (o.length : Int) < c := by omega
          unfold c41b1
          simp [evCode, evOps, evOne, evOp, evPur, evEff, evPur.chunks, fillP, AOp.isEff, AO.ev, putP, PV.cells, PV.leaf, getB, getM, mapE, iterE, keyC, mapRows, mfind, eq1, eqL, scal, binP, unP, minP, maxP, foldP, PV.lt, PV.lt.ltL, endP, expoAll, expoG, expo, expo.expoL, frIds, frIds.frIdsL, nodupN, kill, cls, clsFuel, resO, RV.get, loadP, evC_p, evC_s, endS, endT, rowsOf, callP, thinL, unfr, unfr.unfrL, PV.noMem, PV.noMem.noMemL, optI, mapO, norm, trimT, trimB, forget, hasN, blksLt, List.set, softChk, softGo, softRd, effTg, rdP, S41w, R41w, nB3, oB, gl, g1, g2, eo, heN, c1'])
    ([], L0, f0) ⟨Nat.zero_le _, by rcases hc with h | h; exact .inl h; exact .inr h.1, ok0, hl0, rfl⟩ (by
      simp only [List.length_nil]
      rcases hc with h | h
      · rw [if_pos h]; exact hf0
      · split
        · exact hf0
        · omega) s0 E hE h0
  exact H
def badD (W : List Val) (d : Int) : Prop := d < 0 ∨ (W.length : Int) ≤ d
instance (W : List Val) (d : Int) : Decidable (badD W d) := by unfold badD; infer_instance
def dcD (n : Nat) (W : List Val) : Nat → Rs → Rs
  | 0, q => q
  | j + 1, q => if q.1.length < n ∧ q.2.2 = false then
      (if badD W (dec q.2.1).1 then ([], q.2.1.drop (dec q.2.1).2.1, true)
       else dcD n W j (q.1 ++ [W.getD (dec q.2.1).1.toNat (0, 0, [])], q.2.1.drop (dec q.2.1).2.1, decide ((dec q.2.1).2.2 ≠ 0)))
    else q
def S41d (G : List Nat → Bool → Blks) (e N n : Nat) (W : List Val) (q : Rs) : St := ⟨[.ptr e 1 0 0, .int .i64 (n : Int), .top, .top, .top, .own (N + 1) W.length 0 W.length, .top, .own (N + 2) q.1.length 0 q.1.length] ++ List.replicate 57 .top, G q.2.1 q.2.2 ++ [nB3, oB W, oB q.1]⟩
def R41d (G : List Nat → Bool → Blks) (e N n : Nat) (W : List Val) (q : Rs) (o : Out) : Prop :=
  (∃ z33 z34 z35 z36 z37 z38 z39 z40 z41 z42 z43, o = .exit 2 ⟨[.ptr e 1 0 0, .int .i64 (n : Int), .top, .top, .top, .own (N + 1) W.length 0 W.length, .top, .own (N + 2) q.1.length 0 q.1.length, .top, .top, .top, .top, .top, .top, .top, .top, .top, .top, .top, .top, .top, .top, .top, .top, .top, .top, .top, .top, .top, .top, .top, .top, .top, z33, z34, z35, z36, z37, z38, z39, z40, z41, z42, z43] ++ List.replicate 21 .top, G q.2.1 q.2.2 ++ [nB3, oB W, oB q.1]⟩) ∨
  (∃ s p, o = .ret s ∧ q.1 = [] ∧ s.sl[4]?.getD .top = .own (N + 3) 0 0 0 ∧ s.bl = G q.2.1 q.2.2 ++ [nB3, oB W, oB p, nB3])
theorem flatW (W o : List Val) : flatB [nB3, oB W, oB o] := fun k => by simp [nB3, oB, blksLt]
set_option maxRecDepth 100000 in
theorem loop41d (e N : Nat) (G : List Nat → Bool → Blks) (hG : Rd2 e N G) (n : Nat) (W : List Val) (fu fuel : Nat) (hn : n ≤ 20000) (hf : n < fuel) (L0 : List Nat) (f0 : Bool) (hl0 : L0.length ≤ 1000000) (ok0 : okB L0) :
    ∀ s0 E, evLoop (evCode (evC Dg) fu c41b0) [0, 1, 5, 7] (N + 3) fuel s0 = E → norm [0, 1, 5, 7] (N + 3) s0 = S41d G e N n W ([], L0, f0) → ∃ out, E = some out ∧ R41d G e N n W (dcD n W n ([], L0, f0)) out := by
  intro s0 E hE h0
  have gl := hG.len
  have he := hG.he
  have eW := vRows_len W
  have hb0 : ∀ b, Nat.blt b 0 = false := fun b => by cases b <;> rfl
  have H := loop_while (body := evCode (evC Dg) fu c41b0) (keep := [0, 1, 5, 7]) (n0 := N + 3) (fuel := fuel) (S41d G e N n W) (fun q => n - q.1.length) (fun q => q.1.length ≤ n ∧ okB q.2.1 ∧ q.2.1.length ≤ 1000000 ∧ dcD n W n ([], L0, f0) = dcD n W (n - q.1.length) q) (R41d G e N n W (dcD n W n ([], L0, f0)))
    (by
      rintro ⟨o, L, f⟩ ⟨ho, ok, hL, hp⟩
      simp only at ho ok hL hp
      have g1 : ∀ y : Blks, (G L f ++ y)[e]? = some (some ⟨1, 2, true, [[.sl false 1 (bR L), .bool f]]⟩) := fun y => by
        rw [List.getElem?_append_left (by rw [gl]; exact he)]; exact hG.get L f
      have g2 := fun y => got_of (g1 y)
      have eo := vRows_len o
      have heN : ∀ k, e < N + k := fun k => by omega
      by_cases c : o.length < n ∧ f = false
      · obtain ⟨c1, rfl⟩ := c
        have hk : n - o.length = (n - (o.length + 1)) + 1 := by omega
        rw [hk, dcD, if_pos ⟨c1, rfl⟩] at hp
        have h50 := f50 e (N + 3) _ (hG.app [nB3, oB W, oB o] (flatW W o)).toRd L false hL ok
        have ok1 := ok.drop (dec L).2.1
        have l1 : (L.drop (dec L).2.1).length ≤ 1000000 := by simp; omega
        simp only [Bool.false_or] at h50
        simp only at hp
        generalize decide ((dec L).2.2 ≠ 0) = fA at *
        generalize (dec L).1 = d at *
        generalize L.drop (dec L).2.1 = L1 at *
        have c1' : (o.length : Int) < n := by omega
        simp only [nB3, oB] at h50
        by_cases hb : badD W d
        · right
          rw [if_pos hb] at hp
          rw [hp]
          have g3 : ∀ y : Blks, (G L1 fA ++ y)[e]? = some (some ⟨1, 2, true, [[.sl false 1 (bR L1), .bool fA]]⟩) := fun y => by
            rw [List.getElem?_append_left (by rw [gl]; exact he)]; exact hG.get L1 fA
          have g4 := fun y => got_of (g3 y)
          have gs := hG.set L1 fA L1 true
          refine (fun ⟨s, h1, h2, h3⟩ => ⟨.ret s, h1, fun _ h => (by cases h), .inr ⟨s, o, rfl, rfl, h2, h3⟩⟩ : (∃ s, _ ∧ _ ∧ _) → _) ?_
          by_cases d1 : d < 0
          · unfold c41b0
            simp [evCode, evOps, evOne, evOp, evPur, evEff, evPur.chunks, fillP, AOp.isEff, AO.ev, putP, PV.cells, PV.leaf, getB, getM, mapE, iterE, keyC, mapRows, mfind, eq1, eqL, scal, binP, unP, minP, maxP, foldP, PV.lt, PV.lt.ltL, endP, expoAll, expoG, expo, expo.expoL, frIds, frIds.frIdsL, nodupN, kill, cls, clsFuel, resO, RV.get, loadP, evC_p, evC_s, endS, endT, rowsOf, callP, thinL, unfr, unfr.unfrL, PV.noMem, PV.noMem.noMemL, optI, mapO, norm, trimT, trimB, forget, hasN, blksLt, List.set, softChk, softGo, softRd, effTg, rdP, S41d, nB3, oB, gl, g1, g2, g3, g4, gs, eo, eW, heN, c1', c1, h50, d1, he, hb0]
          · have d2 : (W.length : Int) ≤ d := by unfold badD at hb; omega
            unfold c41b0
            simp [evCode, evOps, evOne, evOp, evPur, evEff, evPur.chunks, fillP, AOp.isEff, AO.ev, putP, PV.cells, PV.leaf, getB, getM, mapE, iterE, keyC, mapRows, mfind, eq1, eqL, scal, binP, unP, minP, maxP, foldP, PV.lt, PV.lt.ltL, endP, expoAll, expoG, expo, expo.expoL, frIds, frIds.frIdsL, nodupN, kill, cls, clsFuel, resO, RV.get, loadP, evC_p, evC_s, endS, endT, rowsOf, callP, thinL, unfr, unfr.unfrL, PV.noMem, PV.noMem.noMemL, optI, mapO, norm, trimT, trimB, forget, hasN, blksLt, List.set, softChk, softGo, softRd, effTg, rdP, S41d, nB3, oB, gl, g1, g2, g3, g4, gs, eo, eW, heN, c1', c1, h50, d1, d2, he, hb0]
        · left
          rw [if_neg hb] at hp
          unfold badD at hb
          have d1 : ¬ d < 0 := by omega
          have d2 : ¬ (W.length : Int) ≤ d := by omega
          obtain ⟨i, rfl⟩ : ∃ i : Nat, d = i := ⟨d.toNat, by omega⟩
          rw [Int.toNat_natCast] at hp
          have hi : i < W.length := by omega
          have hw : W[i]? = some (W.getD i (0, 0, [])) := by rw [List.getD_eq_getElem?_getD, List.getElem?_eq_getElem hi]; rfl
          generalize W.getD i (0, 0, []) = v at *
          have rw1 := vRows_get hw
          have gw := vRows_got hw
          have i1 : (i : Int) < W.length := by omega
          have J : (o ++ [v]).length ≤ n ∧ okB L1 ∧ L1.length ≤ 1000000 ∧ dcD n W n ([], L0, f0) = dcD n W (n - (o ++ [v]).length) (o ++ [v], L1, fA) := ⟨by simp; omega, ok1, l1, by rw [hp]; simp⟩
          have K : n - (o ++ [v]).length < n - o.length := by simp; omega
          refine ⟨(o ++ [v], L1, fA), ?_⟩
          refine (fun ⟨s', q1, q2⟩ => ⟨s', q1, q2, J, K⟩ : (∃ s', _ ∧ _) → _) ?_
          have va := vRows_app o v
          have m1 : (o.length + 1) * 32 ≤ 140737488355328 := by omega
          have m2 : o.length + 1 ≤ 140737488355328 := by omega
          have gb := hG.fl L1 fA (N + 3) (by omega)
          have tk : ∀ y : Blks, y.length = 3 → (G L1 fA ++ y).take (N + 3) = G L1 fA ++ y := fun y hy => List.take_of_length_le (by rw [List.length_append, gl, hy]; exact Nat.le_refl _)
          have bt : Nat.blt e (N + 3) = true := blt_of (by omega)
          have bt2 : Nat.blt (N + 1) (N + 3) = true := blt_of (by omega)
          have bt3 : Nat.blt (N + 2) (N + 3) = true := blt_of (by omega)
          simp only [vRow] at rw1 gw
          unfold c41b0
          simp [evCode, evOps, evOne, evOp, evPur, evEff, evPur.chunks, fillP, AOp.isEff, AO.ev, putP, PV.cells, PV.leaf, getB, getM, mapE, iterE, keyC, mapRows, mfind, eq1, eqL, scal, binP, unP, minP, maxP, foldP, PV.lt, PV.lt.ltL, endP, expoAll, expoG, expo, expo.expoL, frIds, frIds.frIdsL, nodupN, kill, cls, clsFuel, resO, RV.get, loadP, evC_p, evC_s, endS, endT, rowsOf, callP, thinL, unfr, unfr.unfrL, PV.noMem, PV.noMem.noMemL, optI, mapO, norm, trimT, trimB, forget, hasN, blksLt, List.set, softChk, softGo, softRd, effTg, rdP, S41d, nB3, oB, gl, g1, g2, eo, eW, heN, c1', c1, h50, d1, d2, rw1, gw, hi, i1, va, m1, m2, hb0, gb, tk, bt, bt2, bt3]
      · right
        have hz : dcD n W (n - o.length) (o, L, f) = (o, L, f) := by
          cases hk : n - o.length with
          | zero => rfl
          | succ k => rw [dcD, if_neg c]
        rw [hp, hz]
        by_cases c1 : o.length < n
        · have cf : f = true := by cases f with
            | true => rfl
            | false => exact absurd ⟨c1, rfl⟩ c
          subst cf
          have c1' : (o.length : Int) < n := by omega
          unfold c41b0
          simp [evCode, evOps, evOne, evOp, evPur, evEff, evPur.chunks, fillP, AOp.isEff, AO.ev, putP, PV.cells, PV.leaf, getB, getM, mapE, iterE, keyC, mapRows, mfind, eq1, eqL, scal, binP, unP, minP, maxP, foldP, PV.lt, PV.lt.ltL, endP, expoAll, expoG, expo, expo.expoL, frIds, frIds.frIdsL, nodupN, kill, cls, clsFuel, resO, RV.get, loadP, evC_p, evC_s, endS, endT, rowsOf, callP, thinL, unfr, unfr.unfrL, PV.noMem, PV.noMem.noMemL, optI, mapO, norm, trimT, trimB, forget, hasN, blksLt, List.set, softChk, softGo, softRd, effTg, rdP, S41d, R41d, nB3, oB, gl, g1, g2, eo, heN, c1', c1]
        · have c1' : ¬ (o.length : Int) < n := by omega
          unfold c41b0
          simp [evCode, evOps, evOne, evOp, evPur, evEff, evPur.chunks, fillP, AOp.isEff, AO.ev, putP, PV.cells, PV.leaf, getB, getM, mapE, iterE, keyC, mapRows, mfind, eq1, eqL, scal, binP, unP, minP, maxP, foldP, PV.lt, PV.lt.ltL, endP, expoAll, expoG, expo, expo.expoL, frIds, frIds.frIdsL, nodupN, kill, cls, clsFuel, resO, RV.get, loadP, evC_p, evC_s, endS, endT, rowsOf, callP, thinL, unfr, unfr.unfrL, PV.noMem, PV.noMem.noMemL, optI, mapO, norm, trimT, trimB, forget, hasN, blksLt, List.set, softChk, softGo, softRd, effTg, rdP, S41d, R41d, nB3, oB, gl, g1, g2, eo, heN, c1', c1])
    ([], L0, f0) ⟨Nat.zero_le _, ok0, hl0, rfl⟩ (by simp only [List.length_nil]; omega) s0 E hE h0
  exact H
end Go.Proofs.Ytimipbbcmiblkaa
