/- column: the plain coding. -/
import Derived.Test.YtimipbbcmiblkaaCoE
namespace Go.Proofs.Ytimipbbcmiblkaa
open Go Go.RowKit
set_option linter.unusedVariables false
set_option linter.unusedSimpArgs false
set_option maxHeartbeats 4000000

def vRow (v : Val) : List PV := [.int .i64 v.1, .int .i64 v.2.1, .str v.2.2]
def vRows (l : List Val) : List (List PV) := l.map vRow
def eV (x : Bool) (l : List Val) : PV := .sl x 3 (vRows l)
theorem vRows_len (l : List Val) : (vRows l).length = l.length := by simp [vRows]
theorem vRows_get {l : List Val} {k : Nat} {v : Val} (h : l[k]? = some v) : (vRows l)[k]? = some (vRow v) := by simp [vRows, h]
theorem vRows_got {l : List Val} {k : Nat} {v : Val} (h : l[k]? = some v) : ∀ q, (vRows l)[k]'q = vRow v := fun q => by
  have := vRows_get h
  rw [List.getElem?_eq_getElem q] at this
  exact Option.some.inj this
def okW (v : Val) : Prop := (0 ≤ v.1 ∧ v.1 ≤ 3) ∧ (-9223372036854775808 ≤ v.2.1 ∧ v.2.1 ≤ 9223372036854775807) ∧ v.2.2.length ≤ 200
theorem okW.ok {v : Val} (h : okW v) : okV v := ⟨h.1, h.2.1, by have := h.2.2; omega⟩
theorem vB_len {v : Val} (h : okW v) : (vB v).length ≤ 211 := by
  obtain ⟨_, ⟨h1, h2⟩, h3⟩ := h
  unfold vB tlB
  split
  · have := putI_len h1 h2; simp; omega
  · split
    · unfold putT
      have := putI_len (n := (v.2.2.length : Int)) (by omega) (by omega)
      simp [sB_len]
      omega
    · simp
def flB (l : List Val) : List Nat := l.flatMap vB
theorem flB_len : ∀ {l : List Val}, (∀ v ∈ l, okW v) → (flB l).length ≤ 211 * l.length
  | [], _ => by simp [flB]
  | v :: l, h => by
    have h1 := vB_len (h v (by simp))
    have h2 := flB_len (l := l) (fun v hv => h v (by simp [hv]))
    simp [flB] at h2 ⊢
    omega
theorem flB_take {l : List Val} {k : Nat} {v : Val} (h : l[k]? = some v) : flB (l.take (k + 1)) = flB (l.take k) ++ vB v := by
  unfold flB
  rw [List.take_add_one, h]
  simp
def S31 (x : Bool) (l : List Val) (k : Nat) (A : List Nat) : St := ⟨[.top, .top, .top, .own 1 A.length 0 A.length, .top, .top, .top, eV x l, .int .i64 (l.length : Int), .int .i64 (k : Int)] ++ List.replicate 8 .top, [some ⟨0, 1, true, []⟩, some ⟨A.length, 1, true, bR A⟩]⟩
theorem gb31 (v : Val) : Gb 1 3 (fun A => [some ⟨0, 1, true, []⟩, some ⟨A.length, 1, true, bR A⟩, some ⟨1, 3, true, [vRow v]⟩]) where
  len A := rfl
  get A := rfl
  set A A' := rfl
  lt A := by simp [blksLt]
  hc := by omega
set_option maxRecDepth 100000 in
theorem f31 (x : Bool) (l : List Val) (hl : l.length ≤ 20000) (hv : ∀ v ∈ l, okW v) : evE Dg 31 [eV x l] = some (.fr 1 (bR (0 :: flB l))) := by
  have e1 := vRows_len l
  have H := loop_inv (body := evCode (evC Dg) (l.length + 1) c31b0) (keep := [3, 7, 8, 9]) (n0 := 2) (fuel := l.length + 1) l (S31 x l) (fun k A => A = 0 :: flB (l.take k)) (fun _ => False)
    (by
      rintro k v A hu hk hA
      left
      have hm : v ∈ l := List.mem_of_getElem? hu
      have ok := hv v hm
      have hlen := flB_len (l := l.take k) (fun w hw => hv w (List.mem_of_mem_take hw))
      have hle : (l.take k).length ≤ k := by simp; omega
      have hAl : A.length ≤ 10000000 := by rw [hA]; simp; omega
      have h44 := f44 1 3 _ (gb31 v) A v ok.ok hAl
      have hf := flB_take hu
      refine ⟨A ++ vB v, ?_⟩
      have J : A ++ vB v = 0 :: flB (l.take (k + 1)) := by rw [hf, hA]; simp
      refine (fun ⟨s', q1, q2⟩ => ⟨s', q1, q2, J⟩ : (∃ s', _ ∧ _) → _) ?_
      have r1 := vRows_get hu
      have g1 := vRows_got hu
      have hk' : (k : Int) < l.length := by omega
      have w1 := wrap_i64 ((k : Int) + 1) (by omega) (by omega)
      generalize A ++ vB v = A' at *
      have hb0 : ∀ b, Nat.blt b 0 = false := fun b => by cases b <;> rfl
      have n1 : Nat.blt 1 2 = true := rfl
      simp only [vP, vRow] at h44
      unfold c31b0
      simp [evCode, evOps, evOne, evOp, evPur, evEff, evPur.chunks, fillP, AOp.isEff, AO.ev, putP, PV.cells, PV.leaf, getB, getM, mapE, iterE, keyC, mapRows, mfind, eq1, eqL, scal, binP, unP, minP, maxP, foldP, PV.lt, PV.lt.ltL, endP, expoAll, expoG, expo, expo.expoL, frIds, frIds.frIdsL, nodupN, kill, cls, clsFuel, resO, RV.get, loadP, evC_p, evC_s, endS, endT, rowsOf, callP, thinL, unfr, unfr.unfrL, PV.noMem, PV.noMem.noMemL, optI, mapO, norm, trimT, trimB, forget, hasN, blksLt, List.set, softChk, softGo, softRd, effTg, rdP, S31, eV, vRow, e1, r1, g1, hk', hk, w1, h44, hb0, n1])
    (by
      rintro A hA s
      unfold c31b0
      simp [evCode, evOps, evOne, evOp, evPur, evEff, evPur.chunks, fillP, AOp.isEff, AO.ev, putP, PV.cells, PV.leaf, getB, getM, mapE, iterE, keyC, mapRows, mfind, eq1, eqL, scal, binP, unP, minP, maxP, foldP, PV.lt, PV.lt.ltL, endP, expoAll, expoG, expo, expo.expoL, frIds, frIds.frIdsL, nodupN, kill, cls, clsFuel, resO, RV.get, loadP, evC_p, evC_s, endS, endT, rowsOf, callP, thinL, unfr, unfr.unfrL, PV.noMem, PV.noMem.noMemL, optI, mapO, norm, trimT, trimB, forget, hasN, blksLt, List.set, softChk, softGo, softRd, effTg, rdP, S31, eV, e1])
    (by omega) [0] (by simp [flB])
  refine evE_intro (l.length + 1) D31 rfl ?_
  unfold c31
  simp [evCode, evOps, evOne, evOp, evPur, evEff, evPur.chunks, fillP, AOp.isEff, AO.ev, putP, PV.cells, PV.leaf, getB, getM, mapE, iterE, keyC, mapRows, mfind, eq1, eqL, scal, binP, unP, minP, maxP, foldP, PV.lt, PV.lt.ltL, endP, expoAll, expoG, expo, expo.expoL, frIds, frIds.frIdsL, nodupN, kill, cls, clsFuel, resO, RV.get, loadP, evC_p, evC_s, endS, endT, rowsOf, callP, thinL, unfr, unfr.unfrL, PV.noMem, PV.noMem.noMemL, optI, mapO, norm, trimT, trimB, forget, hasN, blksLt, List.set, softChk, softGo, softRd, effTg, rdP, eV, e1]
  generalize hE : evLoop _ _ _ _ _ = E
  rcases H _ _ hE (by simp [evCode, evOps, evOne, evOp, evPur, evEff, evPur.chunks, fillP, AOp.isEff, AO.ev, putP, PV.cells, PV.leaf, getB, getM, mapE, iterE, keyC, mapRows, mfind, eq1, eqL, scal, binP, unP, minP, maxP, foldP, PV.lt, PV.lt.ltL, endP, expoAll, expoG, expo, expo.expoL, frIds, frIds.frIdsL, nodupN, kill, cls, clsFuel, resO, RV.get, loadP, evC_p, evC_s, endS, endT, rowsOf, callP, thinL, unfr, unfr.unfrL, PV.noMem, PV.noMem.noMemL, optI, mapO, norm, trimT, trimB, forget, hasN, blksLt, List.set, softChk, softGo, softRd, effTg, rdP, S31, eV, e1, bR]) with ⟨A, hA, q2⟩ | ⟨_, _, q3⟩
  · rw [q2]
    rw [List.take_length] at hA
    rw [← hA]
    have eA := bR_len A
    unfold c31b0
    simp [evCode, evOps, evOne, evOp, evPur, evEff, evPur.chunks, fillP, AOp.isEff, AO.ev, putP, PV.cells, PV.leaf, getB, getM, mapE, iterE, keyC, mapRows, mfind, eq1, eqL, scal, binP, unP, minP, maxP, foldP, PV.lt, PV.lt.ltL, endP, expoAll, expoG, expo, expo.expoL, frIds, frIds.frIdsL, nodupN, kill, cls, clsFuel, resO, RV.get, loadP, evC_p, evC_s, endS, endT, rowsOf, callP, thinL, unfr, unfr.unfrL, PV.noMem, PV.noMem.noMemL, optI, mapO, norm, trimT, trimB, forget, hasN, blksLt, List.set, softChk, softGo, softRd, effTg, rdP, S31, eV, e1, eA]
  · exact q3.elim
end Go.Proofs.Ytimipbbcmiblkaa
