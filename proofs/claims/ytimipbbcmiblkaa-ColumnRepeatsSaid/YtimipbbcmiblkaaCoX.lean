/- column: the reader's differences. -/
import Derived.Test.YtimipbbcmiblkaaCoW
namespace Go.Proofs.Ytimipbbcmiblkaa
open Go Go.RowKit
set_option linter.unusedVariables false
set_option linter.unusedSimpArgs false
set_option maxHeartbeats 4000000

def dfD (k : Int) (n : Nat) : Nat → Rs → Int → Rs
  | 0, q, _ => q
  | j + 1, q, last => if q.1.length < n ∧ q.2.2 = false then dfD k n j (q.1 ++ [(k, IntKind.i64.wrap (last + (dec q.2.1).1), [])], q.2.1.drop (dec q.2.1).2.1, decide ((dec q.2.1).2.2 ≠ 0)) (IntKind.i64.wrap (last + (dec q.2.1).1)) else q
def S40 (G : List Nat → Bool → Blks) (e N : Nat) (k : Int) (n : Nat) (q : Rs × Int) : St := ⟨[.ptr e 1 0 0, .int .i64 k, .int .i64 (n : Int), .top, .top, .top, .top, .own (N + 1) q.1.1.length 0 q.1.1.length, .int .i64 q.2] ++ List.replicate 22 .top, G q.1.2.1 q.1.2.2 ++ [nB3, oB q.1.1]⟩
def R40 (G : List Nat → Bool → Blks) (e N : Nat) (k : Int) (n : Nat) (q : Rs) (o : Out) : Prop := ∃ z8 z9 z10 z11 z12 z13 z14 z15 z16 z17 z18 z19, o = .exit 0 ⟨[.ptr e 1 0 0, .int .i64 k, .int .i64 (n : Int), .top, .top, .top, .top, .own (N + 1) q.1.length 0 q.1.length, z8, z9, z10, z11, z12, z13, z14, z15, z16, z17, z18, z19] ++ List.replicate 11 .top, G q.2.1 q.2.2 ++ [nB3, oB q.1]⟩
set_option maxRecDepth 100000 in
theorem loop40 (e N : Nat) (G : List Nat → Bool → Blks) (hG : Rd2 e N G) (k : Int) (n fu fuel : Nat) (hn : n ≤ 20000) (hf : n < fuel) (L0 : List Nat) (f0 : Bool) (hl0 : L0.length ≤ 1000000) (ok0 : okB L0) :
    ∀ s0 E, evLoop (evCode (evC Dg) fu c40b0) [0, 1, 2, 7, 8] (N + 2) fuel s0 = E → norm [0, 1, 2, 7, 8] (N + 2) s0 = S40 G e N k n (([], L0, f0), 0) → ∃ out, E = some out ∧ R40 G e N k n (dfD k n n ([], L0, f0) 0) out := by
  intro s0 E hE h0
  have gl := hG.len
  have he := hG.he
  have hb0 : ∀ b, Nat.blt b 0 = false := fun b => by cases b <;> rfl
  have H := loop_while (body := evCode (evC Dg) fu c40b0) (keep := [0, 1, 2, 7, 8]) (n0 := N + 2) (fuel := fuel) (S40 G e N k n) (fun q => n - q.1.1.length) (fun q => q.1.1.length ≤ n ∧ okB q.1.2.1 ∧ q.1.2.1.length ≤ 1000000 ∧ dfD k n n ([], L0, f0) 0 = dfD k n (n - q.1.1.length) q.1 q.2) (R40 G e N k n (dfD k n n ([], L0, f0) 0))
    (by
      rintro ⟨⟨o, L, f⟩, last⟩ ⟨ho, ok, hL, hp⟩
      simp only at ho ok hL hp
      have g1 : ∀ y : Blks, (G L f ++ y)[e]? = some (some ⟨1, 2, true, [[.sl false 1 (bR L), .bool f]]⟩) := fun y => by
        rw [List.getElem?_append_left (by rw [gl]; exact he)]; exact hG.get L f
      have g2 := fun y => got_of (g1 y)
      have eo := vRows_len o
      have heN : ∀ k, e < N + k := fun k => by omega
      by_cases c : o.length < n ∧ f = false
      · left
        obtain ⟨c1, rfl⟩ := c
        have hk : n - o.length = (n - (o.length + 1)) + 1 := by omega
        rw [hk, dfD, if_pos ⟨c1, rfl⟩] at hp
        have h50 := f50 e (N + 2) _ (hG.app [nB3, oB o] (flatO o)).toRd L false hL ok
        simp only [Bool.false_or] at h50
        simp only at hp
        have v1 := ok.drop (dec L).2.1
        have v2 : (L.drop (dec L).2.1).length ≤ L.length := by simp
        generalize decide ((dec L).2.2 ≠ 0) = f' at *
        generalize L.drop (dec L).2.1 = L' at *
        generalize (dec L).1 = d at *
        obtain ⟨w, hw⟩ := ex_eq (IntKind.i64.wrap (last + d))
        rw [hw] at hp
        have J : (o ++ [((k, w, []) : Val)]).length ≤ n ∧ okB L' ∧ L'.length ≤ 1000000 ∧ dfD k n n ([], L0, f0) 0 = dfD k n (n - (o ++ [((k, w, []) : Val)]).length) (o ++ [(k, w, [])], L', f') w := ⟨by simp; omega, v1, by omega, by rw [hp]; simp⟩
        have K : n - (o ++ [((k, w, []) : Val)]).length < n - o.length := by simp; omega
        refine ⟨((o ++ [(k, w, [])], L', f'), w), ?_⟩
        refine (fun ⟨s', q1, q2⟩ => ⟨s', q1, q2, J, K⟩ : (∃ s', _ ∧ _) → _) ?_
        have c1' : (o.length : Int) < n := by omega
        have va := vRows_app o (k, w, [])
        have m1 : (o.length + 1) * 32 ≤ 140737488355328 := by omega
        have m2 : o.length + 1 ≤ 140737488355328 := by omega
        have gb := hG.fl L' f' (N + 2) (by omega)
        have tk : ∀ y : Blks, y.length = 2 → (G L' f' ++ y).take (N + 2) = G L' f' ++ y := fun y hy => List.take_of_length_le (by rw [List.length_append, gl, hy]; exact Nat.le_refl _)
        have bt : Nat.blt e (N + 2) = true := blt_of (by omega)
        have bt2 : Nat.blt (N + 1) (N + 2) = true := blt_of (by omega)
        simp only [nB3, oB] at h50
        simp only at va
        unfold c40b0
        simp [evCode, evOps, evOne, evOp, evPur, evEff, evPur.chunks, fillP, AOp.isEff, AO.ev, putP, PV.cells, PV.leaf, getB, getM, mapE, iterE, keyC, mapRows, mfind, eq1, eqL, scal, binP, unP, minP, maxP, foldP, PV.lt, PV.lt.ltL, endP, expoAll, expoG, expo, expo.expoL, frIds, frIds.frIdsL, nodupN, kill, cls, clsFuel, resO, RV.get, loadP, evC_p, evC_s, endS, endT, rowsOf, callP, thinL, unfr, unfr.unfrL, PV.noMem, PV.noMem.noMemL, optI, mapO, norm, trimT, trimB, forget, hasN, blksLt, List.set, softChk, softGo, softRd, effTg, rdP, S40, nB3, oB, gl, g1, g2, eo, heN, c1', c1, h50, hw, va, m1, m2, hb0, gb, tk, bt, bt2]
      · right
        have hz : dfD k n (n - o.length) (o, L, f) last = (o, L, f) := by
          cases hk : n - o.length with
          | zero => rfl
          | succ j => rw [dfD, if_neg c]
        rw [hp, hz]
        by_cases c1 : o.length < n
        · have cf : f = true := by cases f with
            | true => rfl
            | false => exact absurd ⟨c1, rfl⟩ c
          subst cf
          have c1' : (o.length : Int) < n := by omega
          unfold c40b0
          simp [evCode, evOps, evOne, evOp, evPur, evEff, evPur.chunks, fillP, AOp.isEff, AO.ev, putP, PV.cells, PV.leaf, getB, getM, mapE, iterE, keyC, mapRows, mfind, eq1, eqL, scal, binP, unP, minP, maxP, foldP, PV.lt, PV.lt.ltL, endP, expoAll, expoG, expo, expo.expoL, frIds, frIds.frIdsL, nodupN, kill, cls, clsFuel, resO, RV.get, loadP, evC_p, evC_s, endS, endT, rowsOf, callP, thinL, unfr, unfr.unfrL, PV.noMem, PV.noMem.noMemL, optI, mapO, norm, trimT, trimB, forget, hasN, blksLt, List.set, softChk, softGo, softRd, effTg, rdP, S40, R40, nB3, oB, gl, g1, g2, eo, heN, c1', c1]
        · have c1' : ¬ (o.length : Int) < n := by omega
          unfold c40b0
          simp [evCode, evOps, evOne, evOp, evPur, evEff, evPur.chunks, fillP, AOp.isEff, AO.ev, putP, PV.cells, PV.leaf, getB, getM, mapE, iterE, keyC, mapRows, mfind, eq1, eqL, scal, binP, unP, minP, maxP, foldP, PV.lt, PV.lt.ltL, endP, expoAll, expoG, expo, expo.expoL, frIds, frIds.frIdsL, nodupN, kill, cls, clsFuel, resO, RV.get, loadP, evC_p, evC_s, endS, endT, rowsOf, callP, thinL, unfr, unfr.unfrL, PV.noMem, PV.noMem.noMemL, optI, mapO, norm, trimT, trimB, forget, hasN, blksLt, List.set, softChk, softGo, softRd, effTg, rdP, S40, R40, nB3, oB, gl, g1, g2, eo, heN, c1', c1])
    (([], L0, f0), 0) ⟨Nat.zero_le _, ok0, hl0, rfl⟩ (by simp only [List.length_nil]; omega) s0 E hE h0
  exact H
set_option maxRecDepth 100000 in
theorem f40 (e N : Nat) (G : List Nat → Bool → Blks) (hG : Rd2 e N G) (k : Int) (n : Nat) (hn : n ≤ 20000) (L : List Nat) (f : Bool) (hl : L.length ≤ 1000000) (ok : okB L) :
    evS Dg 40 [.ptr e 1 0 0, .int .i64 k, .int .i64 (n : Int)] (G L f) = some (.own (N + 1) (dfD k n n ([], L, f) 0).1.length 0 (dfD k n n ([], L, f) 0).1.length, G (dfD k n n ([], L, f) 0).2.1 (dfD k n n ([], L, f) 0).2.2 ++ [nB3, oB (dfD k n n ([], L, f) 0).1]) := by
  have hL := loop40 e N G hG k n (n + 1) (n + 1) hn (by omega) L f hl ok
  have gl := hG.len
  have gb0 := hG.lt
  have he := hG.he
  have hb0 : ∀ b, Nat.blt b 0 = false := fun b => by cases b <;> rfl
  generalize dfD k n n ([], L, f) 0 = q at *
  obtain ⟨o, L', f'⟩ := q
  have eo := vRows_len o
  have gb := hG.fl L' f' (N + 2) (by omega)
  have gb' := hG.fl L f (N + 2) (by omega)
  have tk : ∀ L f (y : Blks), y.length = 2 → (G L f ++ y).take (N + 2) = G L f ++ y := fun L f y hy => List.take_of_length_le (by rw [List.length_append, gl, hy]; exact Nat.le_refl _)
  have bt : Nat.blt e (N + 2) = true := blt_of (by omega)
  have bt2 : Nat.blt (N + 1) (N + 2) = true := blt_of (by omega)
  have bf0 : Nat.blt (N + 1) N = false := blt_no (by omega)
  have bf1 : Nat.blt (N + 1) (N + 1) = false := blt_no (by omega)
  refine evS_intro (n + 1) D40 rfl ?_
  unfold c40
  simp [evCode, evOps, evOne, evOp, evPur, evEff, evPur.chunks, fillP, AOp.isEff, AO.ev, putP, PV.cells, PV.leaf, getB, getM, mapE, iterE, keyC, mapRows, mfind, eq1, eqL, scal, binP, unP, minP, maxP, foldP, PV.lt, PV.lt.ltL, endP, expoAll, expoG, expo, expo.expoL, frIds, frIds.frIdsL, nodupN, kill, cls, clsFuel, resO, RV.get, loadP, evC_p, evC_s, endS, endT, rowsOf, callP, thinL, unfr, unfr.unfrL, PV.noMem, PV.noMem.noMemL, optI, mapO, norm, trimT, trimB, forget, hasN, blksLt, List.set, softChk, softGo, softRd, effTg, rdP, gl]
  generalize hE : evLoop _ _ _ _ _ = E
  obtain ⟨out, rfl, z8, z9, z10, z11, z12, z13, z14, z15, z16, z17, z18, z19, rfl⟩ := hL _ E hE (by simp [evCode, evOps, evOne, evOp, evPur, evEff, evPur.chunks, fillP, AOp.isEff, AO.ev, putP, PV.cells, PV.leaf, getB, getM, mapE, iterE, keyC, mapRows, mfind, eq1, eqL, scal, binP, unP, minP, maxP, foldP, PV.lt, PV.lt.ltL, endP, expoAll, expoG, expo, expo.expoL, frIds, frIds.frIdsL, nodupN, kill, cls, clsFuel, resO, RV.get, loadP, evC_p, evC_s, endS, endT, rowsOf, callP, thinL, unfr, unfr.unfrL, PV.noMem, PV.noMem.noMemL, optI, mapO, norm, trimT, trimB, forget, hasN, blksLt, List.set, softChk, softGo, softRd, effTg, rdP, S40, nB3, oB, gl, gb', tk, bt, bt2, vRows])
  simp [evCode, evOps, evOne, evOp, evPur, evEff, evPur.chunks, fillP, AOp.isEff, AO.ev, putP, PV.cells, PV.leaf, getB, getM, mapE, iterE, keyC, mapRows, mfind, eq1, eqL, scal, binP, unP, minP, maxP, foldP, PV.lt, PV.lt.ltL, endP, expoAll, expoG, expo, expo.expoL, frIds, frIds.frIdsL, nodupN, kill, cls, clsFuel, resO, RV.get, loadP, evC_p, evC_s, endS, endT, rowsOf, callP, thinL, unfr, unfr.unfrL, PV.noMem, PV.noMem.noMemL, optI, mapO, norm, trimT, trimB, forget, hasN, blksLt, List.set, softChk, softGo, softRd, effTg, rdP, nB3, oB, gl, gb, gb0, tk, bt2, bf0, bf1, eo, hb0]
end Go.Proofs.Ytimipbbcmiblkaa
