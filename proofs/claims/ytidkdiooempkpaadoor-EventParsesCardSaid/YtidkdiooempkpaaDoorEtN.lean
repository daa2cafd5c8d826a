/- event: the reference's word, Join. -/
-- LATT
import Derived.Test.YtidkdiooempkpaaDoorNtM
namespace Go.Proofs.YtidkdiooempkpaaDoor
open Go Go.RowKit Go.Lib
attribute [local simp] evCode evOps evOne evOp evPur evEff evPur.chunks fillP AOp.isEff AO.ev putP PV.cells PV.leaf getB getM mapE iterE keyC mapRows mfind eq1 eqL scal binP unP minP maxP foldP PV.lt PV.lt.ltL endP expoAll expoG expo expo.expoL frIds frIds.frIdsL nodupN kill cls clsFuel resO RV.get loadP evC_p evC_s endS endT rowsOf callP thinL unfr unfr.unfrL PV.noMem PV.noMem.noMemL optI mapO norm trimT trimB forget hasN blksLt List.set softChk softGo softRd effTg tgOf chgN sameB PV.same PV.same.sameL PV.same.sameLL rdP
set_option linter.unusedVariables false
set_option linter.unusedSimpArgs false
set_option maxHeartbeats 4000000
set_option maxRecDepth 100000

theorem f34 (k : Int) (h1 : ¬ k < 1) (h2 : ¬ 12 < k) : evE Dg 34 [.int .i64 k] = some (.str (kW k)) := by
  rcases kinds h1 h2 with rfl | rfl | rfl | rfl | rfl | rfl | rfl | rfl | rfl | rfl | rfl | rfl <;> exact evE_of (n := 10) (by kernel_rfl)
theorem join_snoc (sep t : List UInt8) : ∀ l : List (List UInt8), l ≠ [] → joinS sep (l ++ [t]) = joinS sep l ++ (sep ++ t)
  | [], h => absurd rfl h
  | [s], _ => by simp [joinS]
  | s :: u :: r, _ => by
    have ih := join_snoc sep t (u :: r) (by simp)
    rw [List.cons_append]
    have e1 : joinS sep (s :: (u :: r ++ [t])) = s ++ (sep ++ joinS sep (u :: r ++ [t])) := rfl
    have e2 : joinS sep (s :: u :: r) = s ++ (sep ++ joinS sep (u :: r)) := rfl
    rw [e1, ih, e2]
    simp only [List.append_assoc]
theorem join_app_le (sep : List UInt8) (r : List (List UInt8)) : ∀ l : List (List UInt8), (joinS sep l).length ≤ (joinS sep (l ++ r)).length
  | [] => by simp [joinS]
  | [s] => by
    cases r with
    | nil => simp [joinS]
    | cons t r =>
      have e1 : joinS sep ([s] ++ t :: r) = s ++ (sep ++ joinS sep (t :: r)) := rfl
      rw [e1]
      simp [joinS]
  | s :: u :: l => by
    have ih := join_app_le sep r (u :: l)
    have e1 : joinS sep (s :: u :: l ++ r) = s ++ (sep ++ joinS sep (u :: l ++ r)) := rfl
    have e2 : joinS sep (s :: u :: l) = s ++ (sep ++ joinS sep (u :: l)) := rfl
    rw [e1, e2]
    simp only [List.length_append] at ih ⊢
    omega
theorem join_take {sep : List UInt8} {l : List (List UInt8)} {k : Nat} {t : List UInt8} (h : l[k]? = some t) :
    joinS sep (l.take (k + 1)) = if k = 0 then t else joinS sep (l.take k) ++ (sep ++ t) := by
  rw [List.take_add_one, h]
  simp only [Option.toList_some]
  by_cases hk : k = 0
  · subst hk; simp [joinS]
  · rw [if_neg hk]
    refine join_snoc sep t _ (fun h0 => ?_)
    have := congrArg List.length h0
    have hl : k < l.length := by
      apply Decidable.byContradiction
      intro hn
      rw [List.getElem?_eq_none (by omega)] at h
      cases h
    simp at this
    rcases this with h | h
    · exact hk h
    · subst h; simp at hl
def S35 (x : Bool) (l : List (List UInt8)) (sep : List UInt8) (k : Nat) : St := ⟨[.sl x 1 (tR l), .str sep, .top, .top, .top, .str (joinS sep (l.take k)), .int .i64 k] ++ List.replicate 18 .top, []⟩
theorem f35 (x : Bool) (l : List (List UInt8)) (sep : List UInt8) (hl : l.length ≤ 1000000) (hj : (joinS sep l).length ≤ 1000000) : evE Dg 35 [.sl x 1 (tR l), .str sep] = some (.str (joinS sep l)) := by
  have e1 := tR_len l
  have H := loop_all (body := evCode (evC Dg) (l.length + 1) c35b0) (keep := [0, 1, 5, 6]) (n0 := 0) (fuel := l.length + 1) l (S35 x l sep) (fun _ => true) (fun _ => False)
    (by
      intro k t ht hk _
      have r1 := tR_get ht
      have g1 := tR_got ht
      have hk' : (k : Int) < l.length := by omega
      have w1 := wrap_i64 ((k : Int) + 1) (by omega) (by omega)
      have js := join_take (sep := sep) ht
      have jl : (joinS sep (l.take (k + 1))).length ≤ 1000000 := by
        have := join_app_le sep (l.drop (k + 1)) (l.take (k + 1))
        rw [List.take_append_drop] at this
        omega
      rw [js] at jl
      by_cases k0 : k = 0
      · subst k0
        rw [if_pos rfl] at js jl
        have jl' : t.length ≤ 9223372036854775807 := by omega
        unfold c35b0
        simp [S35, e1, r1, g1, hk', hk, w1, js, joinS, jl', show IntKind.i64.wrap 1 = 1 from rfl]
      · have kp : (0 : Int) < k := by omega
        rw [if_neg k0] at js jl
        have kp' : 0 < k := by omega
        simp only [List.length_append] at jl
        have b1 : (joinS sep (l.take k)).length + sep.length ≤ 9223372036854775807 := by omega
        have b2 : (joinS sep (l.take k)).length + (sep.length + t.length) ≤ 9223372036854775807 := by omega
        have b3 : (joinS sep (l.take k)).length + sep.length + t.length ≤ 9223372036854775807 := by omega
        unfold c35b0
        simp [S35, e1, r1, g1, hk', hk, w1, js, kp, kp', k0, b1, b2, b3, List.append_assoc])
    (by intro k t ht hk hq; cases hq)
    (by
      intro s
      unfold c35b0
      simp [S35, e1])
    (by omega)
  refine evE_intro (l.length + 1) D35 rfl ?_
  unfold c35
  simp [e1]
  generalize hE : evLoop _ _ _ _ _ = E
  rcases H _ _ hE (by simp [S35, joinS]) with ⟨q1, q2⟩ | ⟨q1, s, q2, q3⟩
  · rw [q2]
    unfold c35b0
    simp [S35, e1, List.take_length]
  · cases q3
end Go.Proofs.YtidkdiooempkpaaDoor
