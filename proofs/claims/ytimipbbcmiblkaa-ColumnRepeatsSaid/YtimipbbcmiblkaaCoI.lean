/- column: the coding with a dictionary. -/
import Derived.Test.YtimipbbcmiblkaaCoH
namespace Go.Proofs.Ytimipbbcmiblkaa
open Go Go.RowKit
set_option linter.unusedVariables false
set_option linter.unusedSimpArgs false
set_option maxHeartbeats 4000000

def posV : List Val → Val → Nat → Option Nat
  | [], _, _ => none
  | w :: r, v, i => if v = w then some i else posV r v (i + 1)
def mRows : List Val → Nat → List (List PV)
  | [], _ => []
  | w :: r, i => [.agg (vRow w), .int .i64 (i : Int)] :: mRows r (i + 1)
theorem mRows_len : ∀ (W : List Val) (i : Nat), (mRows W i).length = W.length
  | [], _ => rfl
  | _ :: r, i => by simp [mRows, mRows_len r]
theorem mRows_app : ∀ (W : List Val) (v : Val) (i : Nat), mRows (W ++ [v]) i = mRows W i ++ [[.agg (vRow v), .int .i64 ((i + W.length : Nat) : Int)]]
  | [], v, i => by simp [mRows]
  | w :: r, v, i => by
    simp only [List.cons_append, mRows, mRows_app r v (i + 1), List.length_cons]
    rw [show i + 1 + r.length = i + (r.length + 1) by omega]
theorem eqV (v w : Val) : eqL [.i, .i, .s] (vRow v) (vRow w) = some (decide (v = w)) := by
  obtain ⟨a, b, c⟩ := v
  obtain ⟨d, e, f⟩ := w
  simp only [vRow, eqL, eq1, if_true, Bool.and_true]
  congr 1
  by_cases h1 : a = d <;> by_cases h2 : b = e <;> by_cases h3 : c = f <;> simp [h1, h2, h3]
theorem mfind_pos (v : Val) : ∀ (W : List Val) (i : Nat), mfind [.i, .i, .s] true (vRow v) (mRows W i) i = some ((posV W v i).map fun (j : Nat) => (j, .int .i64 (j : Int)))
  | [], i => rfl
  | w :: r, i => by
    simp only [mRows, mfind, keyC, if_true, eqV]
    unfold posV
    by_cases h : v = w
    · simp [h]
    · simp [h, mfind_pos v r (i + 1)]
theorem posV_lt : ∀ (W : List Val) (v : Val) (i j : Nat), posV W v i = some j → j < i + W.length
  | [], v, i, j, h => by simp [posV] at h
  | w :: r, v, i, j, h => by
    unfold posV at h
    split at h
    · cases h; simp
    · have := posV_lt r v (i + 1) j h
      simp; omega
def dstp (q : List Val × List Nat) (v : Val) : List Val × List Nat := match posV q.1 v 0 with
  | some i => (q.1, q.2 ++ putI i)
  | none => (q.1 ++ [v], q.2 ++ putI q.1.length)
def dicS (l : List Val) : List Val × List Nat := l.foldl dstp ([], [])
def dicB (l : List Val) : List Nat := 3 :: (putI (dicS l).1.length ++ (flB (dicS l).1 ++ (dicS l).2))
structure I34 (l : List Val) (k : Nat) (q : List Val × List Nat) : Prop where
  eq : q = dicS (l.take k)
  ok : ∀ w ∈ q.1, okW w
  l1 : q.1.length ≤ k
  l2 : q.2.length ≤ 10 * k
theorem I34.next {l : List Val} {k : Nat} {q : List Val × List Nat} {v : Val} (h : I34 l k q) (hk : k < 20000) (hv : l[k]? = some v) (ok : okW v) : I34 l (k + 1) (dstp q v) := by
  obtain ⟨h1, h2, h3, h4⟩ := h
  have e : dstp q v = dicS (l.take (k + 1)) := by
    unfold dicS
    rw [List.take_add_one, hv, List.foldl_append, h1]
    rfl
  cases hp : posV q.1 v 0 with
  | some i =>
    have hi := posV_lt q.1 v 0 i hp
    have hl := putI_len (n := (i : Int)) (by omega) (by omega)
    have ed : dstp q v = (q.1, q.2 ++ putI i) := by unfold dstp; rw [hp]
    rw [ed] at e ⊢
    exact ⟨e, h2, by simp only; omega, by simp only [List.length_append]; omega⟩
  | none =>
    have hl := putI_len (n := (q.1.length : Int)) (by omega) (by omega)
    have ed : dstp q v = (q.1 ++ [v], q.2 ++ putI q.1.length) := by unfold dstp; rw [hp]
    rw [ed] at e ⊢
    exact ⟨e, fun w hw => by
      rcases List.mem_append.1 hw with hw | hw
      · exact h2 w hw
      · rw [List.mem_singleton.1 hw]; exact ok, by simp; omega, by simp only [List.length_append]; omega⟩
def S34 (x : Bool) (l : List Val) (k : Nat) (q : List Val × List Nat) : St := ⟨[.top, .top, .top, .mp 1 0, .own 2 (flB q.1).length 0 (flB q.1).length, .own 3 q.2.length 0 q.2.length, .top, .top, .top, .top, .top, eV x l, .int .i64 (l.length : Int), .int .i64 (k : Int)] ++ List.replicate 32 .top, [some ⟨0, 1, true, []⟩, some ⟨0, mapE, true, mRows q.1 0⟩, some ⟨(flB q.1).length, 1, true, bR (flB q.1)⟩, some ⟨q.2.length, 1, true, bR q.2⟩]⟩
theorem gb34 (R : List (List PV)) (T : List Nat) (v : Val) : Gb 2 5 (fun A => [some ⟨0, 1, true, []⟩, some ⟨0, mapE, true, R⟩, some ⟨A.length, 1, true, bR A⟩, some ⟨T.length, 1, true, bR T⟩, some ⟨1, 3, true, [vRow v]⟩]) where
  len A := rfl
  get A := rfl
  set A A' := rfl
  lt A := by simp [blksLt]
  hc := by omega
set_option maxRecDepth 100000 in
theorem step34 (x : Bool) (l : List Val) (k : Nat) (q : List Val × List Nat) (v : Val) (hl : l.length ≤ 20000) (hu : l[k]? = some v) (hk : k < l.length) (hI : I34 l k q) (ok : okW v) : ∃ s', evCode (evC Dg) (l.length + 1) c34b0 (S34 x l k q) = some (.normal s') ∧ norm [3, 4, 5, 11, 12, 13] 4 s' = S34 x l (k + 1) (dstp q v) := by
  obtain ⟨W, T⟩ := q
  obtain ⟨_, hok, h3, h4⟩ := hI
  simp only at hok h3 h4
  have e1 := vRows_len l
  have r1 := vRows_get hu
  have g1 := vRows_got hu
  have hk' : (k : Int) < l.length := by omega
  have w1 := wrap_i64 ((k : Int) + 1) (by omega) (by omega)
  have hm := mfind_pos v W 0
  have hs := eqV v v
  simp only [decide_true] at hs
  have hlen := flB_len hok
  have lM := mRows_len W 0
  have im : ∀ rows, impB (PV.fr 1 rows) = [⟨rows.length, 1, true, rows⟩] := fun _ => rfl
  have iv : ∀ k rows, impV k (PV.fr 1 rows) = .own k rows.length 0 rows.length := fun _ _ => rfl
  have hb0 : ∀ b, Nat.blt b 0 = false := fun b => by cases b <;> rfl
  have n1 : Nat.blt 1 4 = true := rfl
  have n2 : Nat.blt 2 4 = true := rfl
  have n3 : Nat.blt 3 4 = true := rfl
  have lT := bR_len T
  cases hp : posV W v 0 with
  | some i =>
    have hi := posV_lt W v 0 i hp
    have ed : dstp (W, T) v = (W, T ++ putI i) := by unfold dstp; simp only [hp]
    rw [ed]
    rw [hp] at hm
    have h45 := f45 (i : Int) (by omega) (by omega)
    have hl := putI_len (n := (i : Int)) (by omega) (by omega)
    generalize putI (i : Int) = Q at *
    have lQ := bR_len Q
    have aQ := bR_all Q
    have aQ' := bR_lt Q
    have m1 : (T.length + Q.length) * 1 ≤ 140737488355328 := by omega
    have m2 : T.length + Q.length ≤ 140737488355328 := by omega
    have tQ : (bR Q).take Q.length = bR Q := List.take_of_length_le (by rw [lQ]; exact Nat.le_refl _)
    have eA := bR_app T Q
    simp only [vRow, Option.map_some] at hm hs
    unfold c34b0
    simp [evCode, evOps, evOne, evOp, evPur, evEff, evPur.chunks, fillP, AOp.isEff, AO.ev, putP, PV.cells, PV.leaf, getB, getM, mapE, iterE, keyC, mapRows, mfind, eq1, eqL, scal, binP, unP, minP, maxP, foldP, PV.lt, PV.lt.ltL, endP, expoAll, expoG, expo, expo.expoL, frIds, frIds.frIdsL, nodupN, kill, cls, clsFuel, resO, RV.get, loadP, evC_p, evC_s, endS, endT, rowsOf, callP, thinL, unfr, unfr.unfrL, PV.noMem, PV.noMem.noMemL, optI, mapO, norm, trimT, trimB, forget, hasN, blksLt, List.set, softChk, softGo, softRd, effTg, rdP, S34, eV, vRow, e1, r1, g1, hk', hk, w1, hm, hs, h45, im, iv, lT, lQ, aQ, aQ', m1, m2, tQ, hb0, eA, n1, n2, n3]
  | none =>
    have ed : dstp (W, T) v = (W ++ [v], T ++ putI W.length) := by unfold dstp; simp only [hp]
    rw [ed]
    rw [hp] at hm
    have h45 := f45 (W.length : Int) (by omega) (by omega)
    have hl := putI_len (n := (W.length : Int)) (by omega) (by omega)
    have mA := mRows_app W v 0
    have fA : flB (W ++ [v]) = flB W ++ vB v := by simp [flB]
    have h44 := f44 2 5 _ (gb34 (mRows (W ++ [v]) 0) T v) (flB W) v ok.ok (by omega)
    rw [← fA] at h44
    obtain ⟨B', hfl⟩ := ex_eq (flB (W ++ [v]))
    rw [hfl] at h44
    rw [Nat.zero_add] at mA
    simp only [vP, vRow, mA, mapE] at h44
    generalize putI (W.length : Int) = Q at *
    have lQ := bR_len Q
    have aQ := bR_all Q
    have aQ' := bR_lt Q
    have m1 : (T.length + Q.length) * 1 ≤ 140737488355328 := by omega
    have m2 : T.length + Q.length ≤ 140737488355328 := by omega
    have tQ : (bR Q).take Q.length = bR Q := List.take_of_length_le (by rw [lQ]; exact Nat.le_refl _)
    have eA := bR_app T Q
    simp only [vRow, Option.map_none] at hm hs mA
    unfold c34b0
    simp [evCode, evOps, evOne, evOp, evPur, evEff, evPur.chunks, fillP, AOp.isEff, AO.ev, putP, PV.cells, PV.leaf, getB, getM, mapE, iterE, keyC, mapRows, mfind, eq1, eqL, scal, binP, unP, minP, maxP, foldP, PV.lt, PV.lt.ltL, endP, expoAll, expoG, expo, expo.expoL, frIds, frIds.frIdsL, nodupN, kill, cls, clsFuel, resO, RV.get, loadP, evC_p, evC_s, endS, endT, rowsOf, callP, thinL, unfr, unfr.unfrL, PV.noMem, PV.noMem.noMemL, optI, mapO, norm, trimT, trimB, forget, hasN, blksLt, List.set, softChk, softGo, softRd, effTg, rdP, S34, eV, vRow, e1, r1, g1, hk', hk, w1, hm, hs, h45, h44, im, iv, lT, lQ, lM, aQ, aQ', m1, m2, tQ, hb0, eA, n1, n2, n3, hfl, mA]
end Go.Proofs.Ytimipbbcmiblkaa
