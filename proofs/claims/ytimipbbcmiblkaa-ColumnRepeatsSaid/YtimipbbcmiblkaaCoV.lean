/- column: the reader's plain coding. -/
import Derived.Test.YtimipbbcmiblkaaCoU
import Derived.Test.YtimipbbcmiblkaaCoF
namespace Go.Proofs.Ytimipbbcmiblkaa
open Go Go.RowKit
set_option linter.unusedVariables false
set_option linter.unusedSimpArgs false
set_option maxHeartbeats 4000000

theorem valD_ok {L : List Nat} (h : okB L) : okB (valD L).2.1 ∧ (valD L).2.1.length ≤ L.length := by
  cases L with
  | nil => exact ⟨h, Nat.le_refl _⟩
  | cons z r =>
    have hr : okB r := fun y hy => h y (by simp [hy])
    unfold valD
    simp only
    split
    · exact ⟨hr.drop _, by simp; omega⟩
    · split
      · exact ⟨hr.drop _, by simp; omega⟩
      · exact ⟨hr, by simp⟩
abbrev Rs := List Val × List Nat × Bool
def plD (n : Nat) : Nat → Rs → Rs
  | 0, q => q
  | k + 1, q => if q.1.length < n ∧ q.2.2 = false then plD n k (q.1 ++ [(valD q.2.1).1], (valD q.2.1).2.1, (valD q.2.1).2.2) else q
def oB (o : List Val) : Option Blk := some ⟨o.length, 3, true, vRows o⟩
def nB3 : Option Blk := some ⟨0, 3, true, []⟩
theorem flatO (o : List Val) : flatB [nB3, oB o] := fun k => by simp [nB3, oB, blksLt]
theorem vRows_app (o : List Val) (v : Val) : vRows (o ++ [v]) = vRows o ++ [[.int .i64 v.1, .int .i64 v.2.1, .str v.2.2]] := by simp [vRows, vRow]
theorem vRows_lt (o : List Val) : (∀ r, r ∈ vRows o → PV.lt.ltL 0 r = true) ↔ True := iff_true_intro (by
  intro r hr
  simp only [vRows, List.mem_map] at hr
  obtain ⟨z, _, rfl⟩ := hr
  rfl)
def S38 (G : List Nat → Bool → Blks) (e N n : Nat) (q : Rs) : St := ⟨[.ptr e 1 0 0, .int .i64 (n : Int), .top, .top, .top, .own (N + 1) q.1.length 0 q.1.length] ++ List.replicate 17 .top, G q.2.1 q.2.2 ++ [nB3, oB q.1]⟩
def R38 (G : List Nat → Bool → Blks) (e N n : Nat) (q : Rs) (o : Out) : Prop := ∃ z6 z7 z8 z9 z10 z11 z12 z13 z14 z15 z16, o = .exit 0 ⟨[.ptr e 1 0 0, .int .i64 (n : Int), .top, .top, .top, .own (N + 1) q.1.length 0 q.1.length, z6, z7, z8, z9, z10, z11, z12, z13, z14, z15, z16] ++ List.replicate 6 .top, G q.2.1 q.2.2 ++ [nB3, oB q.1]⟩
set_option maxRecDepth 100000 in
theorem loop38 (e N : Nat) (G : List Nat → Bool → Blks) (hG : Rd2 e N G) (n fu fuel : Nat) (hn : n ≤ 20000) (hf : n < fuel) (L0 : List Nat) (f0 : Bool) (hl0 : L0.length ≤ 1000000) (ok0 : okB L0) :
    ∀ s0 E, evLoop (evCode (evC Dg) fu c38b0) [0, 1, 5] (N + 2) fuel s0 = E → norm [0, 1, 5] (N + 2) s0 = S38 G e N n ([], L0, f0) → ∃ out, E = some out ∧ R38 G e N n (plD n n ([], L0, f0)) out := by
  intro s0 E hE h0
  have gl := hG.len
  have he := hG.he
  have hb0 : ∀ b, Nat.blt b 0 = false := fun b => by cases b <;> rfl
  have H := loop_while (body := evCode (evC Dg) fu c38b0) (keep := [0, 1, 5]) (n0 := N + 2) (fuel := fuel) (S38 G e N n) (fun q => n - q.1.length) (fun q => q.1.length ≤ n ∧ okB q.2.1 ∧ q.2.1.length ≤ 1000000 ∧ plD n n ([], L0, f0) = plD n (n - q.1.length) q) (R38 G e N n (plD n n ([], L0, f0)))
    (by
      rintro ⟨o, L, f⟩ ⟨ho, ok, hL, hp⟩
      simp only at ho ok hL hp
      have g1 : ∀ y : Blks, (G L f ++ y)[e]? = some (some ⟨1, 2, true, [[.sl false 1 (bR L), .bool f]]⟩) := fun y => by
        rw [List.getElem?_append_left (by rw [gl]; exact he)]; exact hG.get L f
      have g2 := fun y => got_of (g1 y)
      have eo := vRows_len o
      have heN : ∀ k, e < N + k := fun k => by omega
      by_cases c : o.length < n ∧ f = false
      · left
        obtain ⟨c1, rfl⟩ := c
        have hk : n - o.length = (n - (o.length + 1)) + 1 := by omega
        rw [hk, plD, if_pos ⟨c1, rfl⟩] at hp
        have h49 := f49 e (N + 2) _ (hG.app [nB3, oB o] (flatO o)) L false hL ok
        obtain ⟨v1, v2⟩ := valD_ok ok
        simp only [Bool.false_or] at h49
        simp only at hp
        generalize valD L = d at *
        obtain ⟨v, L', f'⟩ := d
        simp only at h49 hp v1 v2
        have J : (o ++ [v]).length ≤ n ∧ okB L' ∧ L'.length ≤ 1000000 ∧ plD n n ([], L0, f0) = plD n (n - (o ++ [v]).length) (o ++ [v], L', f') := ⟨by simp; omega, v1, by omega, by rw [hp]; simp⟩
        have K : n - (o ++ [v]).length < n - o.length := by simp; omega
        refine ⟨(o ++ [v], L', f'), ?_⟩
        refine (fun ⟨s', q1, q2⟩ => ⟨s', q1, q2, J, K⟩ : (∃ s', _ ∧ _) → _) ?_
        have c1' : (o.length : Int) < n := by omega
        have va := vRows_app o v
        have m1 : (o.length + 1) * 32 ≤ 140737488355328 := by omega
        have m2 : o.length + 1 ≤ 140737488355328 := by omega
        have gb := hG.fl L' f' (N + 2) (by omega)
        have tk : ∀ y : Blks, y.length = 2 → (G L' f' ++ y).take (N + 2) = G L' f' ++ y := fun y hy => List.take_of_length_le (by rw [List.length_append, gl, hy]; exact Nat.le_refl _)
        have bt : Nat.blt e (N + 2) = true := blt_of (by omega)
        have bt2 : Nat.blt (N + 1) (N + 2) = true := blt_of (by omega)
        simp only [vP, nB3, oB] at h49
        unfold c38b0
        simp [evCode, evOps, evOne, evOp, evPur, evEff, evPur.chunks, fillP, AOp.isEff, AO.ev, putP, PV.cells, PV.leaf, getB, getM, mapE, iterE, keyC, mapRows, mfind, eq1, eqL, scal, binP, unP, minP, maxP, foldP, PV.lt, PV.lt.ltL, endP, expoAll, expoG, expo, expo.expoL, frIds, frIds.frIdsL, nodupN, kill, cls, clsFuel, resO, RV.get, loadP, evC_p, evC_s, endS, endT, rowsOf, callP, thinL, unfr, unfr.unfrL, PV.noMem, PV.noMem.noMemL, optI, mapO, norm, trimT, trimB, forget, hasN, blksLt, List.set, softChk, softGo, softRd, effTg, rdP, S38, nB3, oB, gl, g1, g2, eo, heN, c1', c1, h49, va, m1, m2, hb0, gb, tk, bt, bt2]
      · right
        have hz : plD n (n - o.length) (o, L, f) = (o, L, f) := by
          cases hk : n - o.length with
          | zero => rfl
          | succ k => rw [plD, if_neg c]
        rw [hp, hz]
        by_cases c1 : o.length < n
        · have cf : f = true := by cases f with
            | true => rfl
            | false => exact absurd ⟨c1, rfl⟩ c
          subst cf
          have c1' : (o.length : Int) < n := by omega
          unfold c38b0
          simp [evCode, evOps, evOne, evOp, evPur, evEff, evPur.chunks, fillP, AOp.isEff, AO.ev, putP, PV.cells, PV.leaf, getB, getM, mapE, iterE, keyC, mapRows, mfind, eq1, eqL, scal, binP, unP, minP, maxP, foldP, PV.lt, PV.lt.ltL, endP, expoAll, expoG, expo, expo.expoL, frIds, frIds.frIdsL, nodupN, kill, cls, clsFuel, resO, RV.get, loadP, evC_p, evC_s, endS, endT, rowsOf, callP, thinL, unfr, unfr.unfrL, PV.noMem, PV.noMem.noMemL, optI, mapO, norm, trimT, trimB, forget, hasN, blksLt, List.set, softChk, softGo, softRd, effTg, rdP, S38, R38, nB3, oB, gl, g1, g2, eo, heN, c1', c1]
        · have c1' : ¬ (o.length : Int) < n := by omega
          unfold c38b0
          simp [evCode, evOps, evOne, evOp, evPur, evEff, evPur.chunks, fillP, AOp.isEff, AO.ev, putP, PV.cells, PV.leaf, getB, getM, mapE, iterE, keyC, mapRows, mfind, eq1, eqL, scal, binP, unP, minP, maxP, foldP, PV.lt, PV.lt.ltL, endP, expoAll, expoG, expo, expo.expoL, frIds, frIds.frIdsL, nodupN, kill, cls, clsFuel, resO, RV.get, loadP, evC_p, evC_s, endS, endT, rowsOf, callP, thinL, unfr, unfr.unfrL, PV.noMem, PV.noMem.noMemL, optI, mapO, norm, trimT, trimB, forget, hasN, blksLt, List.set, softChk, softGo, softRd, effTg, rdP, S38, R38, nB3, oB, gl, g1, g2, eo, heN, c1', c1])
    ([], L0, f0) ⟨Nat.zero_le _, ok0, hl0, rfl⟩ (by simp only [List.length_nil]; omega) s0 E hE h0
  exact H
end Go.Proofs.Ytimipbbcmiblkaa
