/- column: the reader's runs, whole. -/
import Derived.Test.YtimipbbcmiblkaaCoYa
namespace Go.Proofs.Ytimipbbcmiblkaa
open Go Go.RowKit
set_option linter.unusedVariables false
set_option linter.unusedSimpArgs false
set_option maxHeartbeats 4000000

/-- a list of values of its own is handed out -/
def ResR (G : List Nat → Bool → Blks) (N : Nat) (r : Option (PV × Blks)) (q : Rs) : Prop := ∃ c y, r = some (.own c q.1.length 0 q.1.length, G q.2.1 q.2.2 ++ y) ∧ flatB y ∧ N ≤ c ∧ c < N + y.length ∧ (G q.2.1 q.2.2 ++ y)[c]? = some (oB q.1)
theorem res38 (e N : Nat) (G : List Nat → Bool → Blks) (hG : Rd2 e N G) (n : Nat) (hn : n ≤ 20000) (L : List Nat) (f : Bool) (hl : L.length ≤ 1000000) (ok : okB L) :
    ResR G N (evS Dg 38 [.ptr e 1 0 0, .int .i64 (n : Int)] (G L f)) (plD n n ([], L, f)) := by
  rw [f38 e N G hG n hn L f hl ok]
  refine ⟨N + 1, _, rfl, flatO _, by omega, by simp, ?_⟩
  rw [List.getElem?_append_right (by rw [hG.len]; omega), hG.len, Nat.add_sub_cancel_left]
  rfl
theorem res40 (e N : Nat) (G : List Nat → Bool → Blks) (hG : Rd2 e N G) (k : Int) (n : Nat) (hn : n ≤ 20000) (L : List Nat) (f : Bool) (hl : L.length ≤ 1000000) (ok : okB L) :
    ResR G N (evS Dg 40 [.ptr e 1 0 0, .int .i64 k, .int .i64 (n : Int)] (G L f)) (dfD k n n ([], L, f) 0) := by
  rw [f40 e N G hG k n hn L f hl ok]
  refine ⟨N + 1, _, rfl, flatO _, by omega, by simp, ?_⟩
  rw [List.getElem?_append_right (by rw [hG.len]; omega), hG.len, Nat.add_sub_cancel_left]
  rfl
theorem evS_retOf {f : Nat} {fc : AFn} {args : List PV} {bl : Blks} {r : PV × Blks} (k : Nat) (hD : Dg f = some fc) (hl : args.length = fc.np) {s : St} {t : Nat} {p : PV} (hres : fc.res = [.t t]) (h : evCode (evC Dg) k fc.code ⟨args ++ List.replicate (fc.nt - fc.np) .top, bl⟩ = some (.ret s)) (hp : s.sl[t]?.getD .top = p) (he : endT bl.length p s.bl = r) (hx : fc.ext = none := by rfl) : evS Dg f args bl = some r := by
  refine evS_intro k hD hl ?_ hx
  rw [h, hres]
  unfold endS
  have : resO s [.t t] = some p := by simp [resO, RV.get, List.getD_eq_getElem?_getD, hp]
  simp only [this, he]
set_option maxRecDepth 100000 in
theorem res39 (e N : Nat) (G : List Nat → Bool → Blks) (hG : Rd2 e N G) (n : Nat) (hn : n ≤ 20000) (L : List Nat) (f : Bool) (hl : L.length ≤ 1000000) (ok : okB L) :
    ResR G N (evS Dg 39 [.ptr e 1 0 0, .int .i64 (n : Int)] (G L f)) (rnD n n ([], L, f)) := by
  have hL := loop39 e N G hG n (n + 1) hn (by omega) L f hl ok
  have gl := hG.len
  have gb0 := hG.lt
  have he := hG.he
  have hb0 : ∀ b, Nat.blt b 0 = false := fun b => by cases b <;> rfl
  generalize rnD n n ([], L, f) = q at *
  obtain ⟨o, L', f'⟩ := q
  have eo := vRows_len o
  have gb := hG.fl L' f' (N + 2) (by omega)
  have gb' := hG.fl L f (N + 2) (by omega)
  have tk : ∀ L f (y : Blks), y.length = 2 → (G L f ++ y).take (N + 2) = G L f ++ y := fun L f y hy => List.take_of_length_le (by rw [List.length_append, gl, hy]; exact Nat.le_refl _)
  have bt : Nat.blt e (N + 2) = true := blt_of (by omega)
  have bt2 : Nat.blt (N + 1) (N + 2) = true := blt_of (by omega)
  have bf0 : Nat.blt (N + 1) N = false := blt_no (by omega)
  have bf1 : Nat.blt (N + 1) (N + 1) = false := blt_no (by omega)
  have hX : ∃ out, evLoop (evCode (evC Dg) (n + 1) c39b1) [0, 1, 5] (N + 2) (n + 1) ⟨[.ptr e 1 0 0, .int .i64 (n : Int), .top, .top, .own N 0 0 0, .own (N + 1) 0 0 0] ++ List.replicate 39 .top, G L f ++ [nB3, nB3]⟩ = some out ∧ R39 G e N n (o, L', f') out := hL _ _ rfl (by simp [evCode, evOps, evOne, evOp, evPur, evEff, evPur.chunks, fillP, AOp.isEff, AO.ev, putP, PV.cells, PV.leaf, getB, getM, mapE, iterE, keyC, mapRows, mfind, eq1, eqL, scal, binP, unP, minP, maxP, foldP, PV.lt, PV.lt.ltL, endP, expoAll, expoG, expo, expo.expoL, frIds, frIds.frIdsL, nodupN, kill, cls, clsFuel, resO, RV.get, loadP, evC_p, evC_s, endS, endT, rowsOf, callP, thinL, unfr, unfr.unfrL, PV.noMem, PV.noMem.noMemL, optI, mapO, norm, trimT, trimB, forget, hasN, blksLt, List.set, softChk, softGo, softRd, effTg, rdP, S39, nB3, oB, gl, gb', tk, bt, bt2, vRows])
  obtain ⟨out, hO, hR⟩ := hX
  simp only [nB3, List.replicate, List.cons_append, List.nil_append] at hO
  rcases hR with ⟨z6, z7, z8, z9, z10, z11, z12, z13, z14, z15, z16, z17, z18, rfl⟩ | ⟨s, p, v, rfl, ho, h4, hbl⟩
  · refine ⟨N + 1, [nB3, oB o], ?_, flatO _, by omega, by simp, by rw [List.getElem?_append_right (by rw [hG.len]; omega), hG.len, Nat.add_sub_cancel_left]; rfl⟩
    refine evS_intro (n + 1) D39 rfl ?_
    unfold c39
    simp [evCode, evOps, evOne, evOp, evPur, evEff, evPur.chunks, fillP, AOp.isEff, AO.ev, putP, PV.cells, PV.leaf, getB, getM, mapE, iterE, keyC, mapRows, mfind, eq1, eqL, scal, binP, unP, minP, maxP, foldP, PV.lt, PV.lt.ltL, endP, expoAll, expoG, expo, expo.expoL, frIds, frIds.frIdsL, nodupN, kill, cls, clsFuel, resO, RV.get, loadP, evC_p, evC_s, endS, endT, rowsOf, callP, thinL, unfr, unfr.unfrL, PV.noMem, PV.noMem.noMemL, optI, mapO, norm, trimT, trimB, forget, hasN, blksLt, List.set, softChk, softGo, softRd, effTg, rdP, gl, hO, nB3, oB, gb, gb0, tk, bt2, bf0, bf1, eo, hb0]
  · simp only at ho
    subst ho
    have cf : ∀ k, k ≤ N + 3 → Nat.blt (N + 3) k = false := fun k hk => blt_no hk
    have ct : Nat.blt (N + 3) (N + 4) = true := blt_of (by omega)
    have tk4 : ∀ L f (y : Blks), y.length = 4 → (G L f ++ y).take (N + 4) = G L f ++ y := fun L f y hy => List.take_of_length_le (by rw [List.length_append, gl, hy]; exact Nat.le_refl _)
    have gb4 := hG.fl L' f' (N + 4) (by omega)
    have c0 := cf N (by omega)
    have c1 := cf (N + 1) (by omega)
    have c2 := cf (N + 2) (by omega)
    have c3 := cf (N + 3) (by omega)
    refine ⟨N + 3, [nB3, oB p, vbx v, nB3], evS_retOf (n + 1) D39 rfl rfl (s := s) ?_ h4 ?_, fun k => by simp [nB3, oB, vbx, blksLt], by omega, by simp, by rw [List.getElem?_append_right (by rw [hG.len]; omega), hG.len, Nat.add_sub_cancel_left]; rfl⟩
    · unfold c39
      simp [evCode, evOps, evOne, evOp, evPur, evEff, evPur.chunks, fillP, AOp.isEff, AO.ev, putP, PV.cells, PV.leaf, getB, getM, mapE, iterE, keyC, mapRows, mfind, eq1, eqL, scal, binP, unP, minP, maxP, foldP, PV.lt, PV.lt.ltL, endP, expoAll, expoG, expo, expo.expoL, frIds, frIds.frIdsL, nodupN, kill, cls, clsFuel, resO, RV.get, loadP, evC_p, evC_s, endS, endT, rowsOf, callP, thinL, unfr, unfr.unfrL, PV.noMem, PV.noMem.noMemL, optI, mapO, norm, trimT, trimB, forget, hasN, blksLt, List.set, softChk, softGo, softRd, effTg, rdP, gl, hO]
    · rw [hbl, gl]
      unfold endT
      simp [norm, trimT, trimB, forget, hasN, PV.lt, PV.lt.ltL, gl, nB3, oB, vbx, c0, c1, c2, c3, ct, tk4, gb4, Nat.add_sub_cancel_left]
end Go.Proofs.Ytimipbbcmiblkaa
