/- column: the reader's runs. -/
import Derived.Test.YtimipbbcmiblkaaCoX
namespace Go.Proofs.Ytimipbbcmiblkaa
open Go Go.RowKit
set_option linter.unusedVariables false
set_option linter.unusedSimpArgs false
set_option maxHeartbeats 4000000

theorem flat3 (o : List Val) (v : Val) : flatB [nB3, oB o, vbx v] := fun k => by simp [nB3, oB, vbx, blksLt]
def S39i (G : List Nat → Bool → Blks) (e N n : Nat) (L : List Nat) (f : Bool) (v : Val) (m : Nat) (q : Nat × List Val) : St := ⟨[.ptr e 1 0 0, .int .i64 (n : Int), .top, .top, .top, .own (N + 1) q.2.length 0 q.2.length, .top, .ptr (N + 2) 1 0 0, .top, .top, .top, .top, .top, .top, .top, .top, .top, .top, .top, .top, .top, .top, .top, .top, .top, .top, .top, .top, .top, .top, .top, .top, .top, .top, .top, .top, .int .i64 (m : Int), .int .i64 (q.1 : Int)] ++ List.replicate 7 .top, G L f ++ [nB3, oB q.2, vbx v]⟩
def R39i (G : List Nat → Bool → Blks) (e N n : Nat) (L : List Nat) (f : Bool) (v : Val) (m : Nat) (o : List Val) (out : Out) : Prop := ∃ z38, out = .exit 2 ⟨[.ptr e 1 0 0, .int .i64 (n : Int), .top, .top, .top, .own (N + 1) o.length 0 o.length, .top, .ptr (N + 2) 1 0 0, .top, .top, .top, .top, .top, .top, .top, .top, .top, .top, .top, .top, .top, .top, .top, .top, .top, .top, .top, .top, .top, .top, .top, .top, .top, .top, .top, .top, .int .i64 (m : Int), .int .i64 (m : Int), z38] ++ List.replicate 6 .top, G L f ++ [nB3, oB o, vbx v]⟩
set_option maxRecDepth 100000 in
theorem loop39i (e N : Nat) (G : List Nat → Bool → Blks) (hG : Rd2 e N G) (n fu fuel : Nat) (L : List Nat) (f : Bool) (v : Val) (m : Nat) (o : List Val) (hm : m < fuel) (hb : o.length + m ≤ 20000) :
    ∀ s0 E, evLoop (evCode (evC Dg) fu c39b0) [0, 1, 5, 7, 36, 37] (N + 3) fuel s0 = E → norm [0, 1, 5, 7, 36, 37] (N + 3) s0 = S39i G e N n L f v m (0, o) → ∃ out, E = some out ∧ R39i G e N n L f v m (o ++ List.replicate m v) out := by
  intro s0 E hE h0
  have gl := hG.len
  have he := hG.he
  have hb0 : ∀ b, Nat.blt b 0 = false := fun b => by cases b <;> rfl
  have H := loop_while (body := evCode (evC Dg) fu c39b0) (keep := [0, 1, 5, 7, 36, 37]) (n0 := N + 3) (fuel := fuel) (S39i G e N n L f v m) (fun q => m - q.1) (fun q => q.1 ≤ m ∧ q.2 = o ++ List.replicate q.1 v) (R39i G e N n L f v m (o ++ List.replicate m v))
    (by
      rintro ⟨j, p⟩ ⟨hj, hp⟩
      simp only at hj hp
      have eo := vRows_len p
      by_cases c : j < m
      · left
        have c' : (j : Int) < m := by omega
        have hpl : p.length = o.length + j := by rw [hp]; simp
        have J : j + 1 ≤ m ∧ p ++ [v] = o ++ List.replicate (j + 1) v := ⟨by omega, by rw [hp, List.replicate_succ']; simp⟩
        have K : m - (j + 1) < m - j := by omega
        refine ⟨(j + 1, p ++ [v]), ?_⟩
        refine (fun ⟨s', q1, q2⟩ => ⟨s', q1, q2, J, K⟩ : (∃ s', _ ∧ _) → _) ?_
        have va := vRows_app p v
        have m1 : (p.length + 1) * 32 ≤ 140737488355328 := by omega
        have m2 : p.length + 1 ≤ 140737488355328 := by omega
        have w1 := wrap_i64 ((j : Int) + 1) (by omega) (by omega)
        have gb := hG.fl L f (N + 3) (by omega)
        have tk : ∀ y : Blks, y.length = 3 → (G L f ++ y).take (N + 3) = G L f ++ y := fun y hy => List.take_of_length_le (by rw [List.length_append, gl, hy]; exact Nat.le_refl _)
        have bt : Nat.blt e (N + 3) = true := blt_of (by omega)
        have bt2 : Nat.blt (N + 1) (N + 3) = true := blt_of (by omega)
        have bt3 : Nat.blt (N + 2) (N + 3) = true := blt_of (by omega)
        unfold c39b0
        simp [evCode, evOps, evOne, evOp, evPur, evEff, evPur.chunks, fillP, AOp.isEff, AO.ev, putP, PV.cells, PV.leaf, getB, getM, mapE, iterE, keyC, mapRows, mfind, eq1, eqL, scal, binP, unP, minP, maxP, foldP, PV.lt, PV.lt.ltL, endP, expoAll, expoG, expo, expo.expoL, frIds, frIds.frIdsL, nodupN, kill, cls, clsFuel, resO, RV.get, loadP, evC_p, evC_s, endS, endT, rowsOf, callP, thinL, unfr, unfr.unfrL, PV.noMem, PV.noMem.noMemL, optI, mapO, norm, trimT, trimB, forget, hasN, blksLt, List.set, softChk, softGo, softRd, effTg, rdP, S39i, nB3, oB, vbx, gl, eo, c, c', va, m1, m2, w1, hb0, gb, tk, bt, bt2, bt3]
      · right
        have hjm : j = m := by omega
        subst hjm
        rw [← hp]
        unfold c39b0
        simp [evCode, evOps, evOne, evOp, evPur, evEff, evPur.chunks, fillP, AOp.isEff, AO.ev, putP, PV.cells, PV.leaf, getB, getM, mapE, iterE, keyC, mapRows, mfind, eq1, eqL, scal, binP, unP, minP, maxP, foldP, PV.lt, PV.lt.ltL, endP, expoAll, expoG, expo, expo.expoL, frIds, frIds.frIdsL, nodupN, kill, cls, clsFuel, resO, RV.get, loadP, evC_p, evC_s, endS, endT, rowsOf, callP, thinL, unfr, unfr.unfrL, PV.noMem, PV.noMem.noMemL, optI, mapO, norm, trimT, trimB, forget, hasN, blksLt, List.set, softChk, softGo, softRd, effTg, rdP, S39i, R39i, nB3, oB, vbx, gl, eo])
    (0, o) ⟨Nat.zero_le _, by simp⟩ (by simp only; omega) s0 E hE h0
  exact H
def badR (n : Nat) (o : List Val) (d : Int) : Prop := d < 1 ∨ (n : Int) - o.length < d
instance (n : Nat) (o : List Val) (d : Int) : Decidable (badR n o d) := by unfold badR; infer_instance
def rnD (n : Nat) : Nat → Rs → Rs
  | 0, q => q
  | j + 1, q => if q.1.length < n ∧ q.2.2 = false then
      (if badR n q.1 (dec q.2.1).1 then ([], (valD (q.2.1.drop (dec q.2.1).2.1)).2.1, true)
       else rnD n j (q.1 ++ List.replicate (dec q.2.1).1.toNat (valD (q.2.1.drop (dec q.2.1).2.1)).1, (valD (q.2.1.drop (dec q.2.1).2.1)).2.1, decide ((dec q.2.1).2.2 ≠ 0) || (valD (q.2.1.drop (dec q.2.1).2.1)).2.2))
    else q
end Go.Proofs.Ytimipbbcmiblkaa
