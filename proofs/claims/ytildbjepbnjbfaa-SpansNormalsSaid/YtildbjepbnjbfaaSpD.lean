/- spans: Normal. -/
import Derived.Test.YtildbjepbnjbfaaSpC
namespace Go.Proofs.Ytildbjepbnjbfaa
open Go Go.RowKit
set_option linter.unusedVariables false
set_option linter.unusedSimpArgs false
set_option maxHeartbeats 8000000

theorem s28 (l : List Sp) (z : List (List PV)) (h1 : l.length < 1000000) : evS Dg 28 [.own 1 l.length 0 l.length, .fn 29 []] [some ⟨0, 2, true, z⟩, some ⟨l.length, 2, true, spRows l⟩] = some (.tup [], [some ⟨0, 2, true, z⟩, some ⟨l.length, 2, true, spRows (Try.srt l)⟩]) := by
  refine evS_ext D28 rfl ?_
  simp only [xSortF, getB, List.getElem?_cons_zero, List.getElem?_cons_succ]
  rw [if_pos (by simp [mapE])]
  simp only
  rw [if_pos (by simp [spRows, h1]), spOf_rows]
  rfl
theorem srt_len (l : List Sp) : (Try.srt l).length = l.length := by
  have := (Try.srt_all l).1.1
  simpa using this
theorem srt_perm (l : List Sp) : (Try.srt l).Perm l := by
  obtain ⟨h1, _, h3⟩ := (Try.srt_all l).1
  have hs := srt_len l
  simp only [List.size_toArray] at h3
  have e1 : ((Try.srt l).toArray.extract 0 l.length).toList = Try.srt l := by simp [← hs]
  have e2 : (l.toArray.extract 0 l.length).toList = l := by simp
  rw [e1] at h3
  rwa [e2] at h3
theorem srt_sorted (l : List Sp) : (Try.srt l).Pairwise (fun a b => a.1 ≤ b.1) := by
  have h := (Try.srt_all l).2
  have hs := srt_len l
  rw [List.pairwise_iff_getElem]
  intro i j hi hj hij
  have := h i j (Nat.zero_le _) hij (by simp; omega)
  rw [Try.ltSp] at this
  rw [getElem!_pos _ _ (by simp; omega), getElem!_pos _ _ (by simp; omega)] at this
  simp at this
  exact this

/-- what Normal returns -/
def norF (l : List Sp) : List Sp := joinF [] (Try.srt (l.filter fun s => decide (vl s)))
theorem norF_spec (l : List Sp) : Nrm (norF l) ∧ ∀ t, inS t (norF l) ↔ setOf t l := by
  have hm : ∀ s, s ∈ Try.srt (l.filter fun s => decide (vl s)) ↔ s ∈ l.filter fun s => decide (vl s) := fun s => (srt_perm _).mem_iff
  obtain ⟨a, b⟩ := joinF_spec (Try.srt (l.filter fun s => decide (vl s))) [] ⟨by simp, .nil⟩ (fun s hs => by
    have := (hm s).1 hs
    simp at this
    exact this.2) (srt_sorted _) (by simp)
  refine ⟨a, fun t => ?_⟩
  unfold norF
  rw [b t, ← setOf_filter]
  simp only [inS_nil, false_or]
  unfold inS
  constructor
  · rintro ⟨s, hs, r⟩; exact ⟨s, (hm s).1 hs, r⟩
  · rintro ⟨s, hs, r⟩; exact ⟨s, (hm s).2 hs, r⟩
def joinS (r : List Sp) (s : Sp) : List Sp :=
  match r with
  | [] => [s]
  | x :: r => if s.1 ≤ x.2 then (x.1, if x.2 < s.2 then s.2 else x.2) :: r else s :: x :: r
theorem joinF_fold : ∀ (l r : List Sp), joinF r l = (l.foldl joinS r).reverse
  | [], r => by unfold joinF; rfl
  | s :: l, [] => by unfold joinF; rw [joinF_fold l [s]]; rfl
  | s :: l, x :: r => by
    unfold joinF
    simp only [List.foldl_cons, joinS]
    split <;> rw [joinF_fold]
theorem joinS_len (r : List Sp) (s : Sp) : (joinS r s).length ≤ r.length + 1 := by
  unfold joinS
  split
  · simp
  · split <;> simp
theorem norF_len (l : List Sp) : (norF l).length ≤ l.length := by
  unfold norF
  rw [joinF_fold, List.length_reverse]
  have key : ∀ (q r : List Sp), (q.foldl joinS r).length ≤ r.length + q.length := by
    intro q
    induction q with
    | nil => intro r; simp
    | cons s q ih =>
      intro r
      have := ih (joinS r s)
      have := joinS_len r s
      simp only [List.foldl_cons, List.length_cons]
      omega
  have h1 := key (Try.srt (l.filter fun s => decide (vl s))) []
  rw [srt_len] at h1
  have h2 := List.length_filter_le (fun s => decide (vl s)) l
  generalize (l.filter fun s => decide (vl s)) = F at h1 h2 ⊢
  simp only [List.length_nil, Nat.zero_add] at h1
  omega

theorem ex_eq {α : Type} (t : α) : ∃ q, t = q := ⟨_, rfl⟩
def addV (v : List Sp) (s : Sp) : List Sp := if vl s then v ++ [s] else v
theorem addV_fold : ∀ (l v : List Sp), l.foldl addV v = v ++ l.filter fun s => decide (vl s)
  | [], v => by simp
  | s :: l, v => by
    rw [List.foldl_cons, addV_fold]
    unfold addV
    by_cases h : vl s <;> simp [h]
theorem spRows_one (s : Sp) : spRows [s] = [[.int .i64 s.1, .int .i64 s.2]] := rfl
theorem spRows_nil : spRows [] = [] := rfl
theorem sp_set (A : List Sp) (x y : Sp) : (spRows (A ++ [x])).set A.length [.int .i64 y.1, .int .i64 y.2] = spRows (A ++ [y]) := by
  rw [spRows_app, spRows_app]
  have : A.length = (spRows A).length := (spRows_len A).symm
  rw [this, List.set_append_right _ _ (Nat.le_refl _)]
  simp [spRows]

def S14a (x : Bool) (l : List Sp) (k : Nat) (v : List Sp) : St :=
  ⟨[.top, .top, .top, .own 1 v.length 0 v.length, .top, .top, .top, .top, .top, .top, eS x l, .int .i64 l.length, .int .i64 k] ++ List.replicate 51 .top,
    [some ⟨0, 2, true, []⟩, some ⟨v.length, 2, true, spRows v⟩]⟩
/-- the joined list: its rows, and how often it was lengthened -/
def S14b (v : List Sp) (k : Nat) (r : List Sp) : St :=
  ⟨[.top, .top, .top, .top, .top, .top, .own 2 r.length 0 r.length] ++ List.replicate 18 .top ++ [.own 1 v.length 0 v.length, .int .i64 v.length, .int .i64 k] ++ List.replicate 36 .top,
    [some ⟨0, 2, true, []⟩, some ⟨v.length, 2, true, spRows v⟩, some ⟨r.length, 2, true, spRows r.reverse⟩]⟩
set_option maxRecDepth 100000 in
theorem f14 (x : Bool) (l : List Sp) (hl : l.length ≤ 1000) : evE Dg 14 [eS x l] = some (.fr 2 (spRows (norF l))) := by
  have e1 := spRows_len l
  have H1 := loop_foldE (body := evCode (evC Dg) (l.length + 1) c14b1) (keep := [3, 10, 11, 12]) (n0 := 2) (fuel := l.length + 1) l (S14a x l) addV (fun k v => v.length ≤ k)
    (by
      intro k a v ha hk hv
      have hk' : (k : Int) < l.length := by omega
      have w1 := wrap_i64 ((k : Int) + 1) (by omega) (by omega)
      have h11 := f11 a
      have r1 := spRows_get ha
      have g1 := spRows_got ha
      have e2 := spRows_len v
      by_cases h : vl a
      · refine ⟨by simp [addV, h]; omega, ?_⟩
        have m1 : (v.length + 1) * 16 ≤ 140737488355328 := by omega
        have m2 : v.length + 1 ≤ 140737488355328 := by omega
        unfold c14b1
        simp [evCode, evOps, evOne, evOp, evPur, evEff, evPur.chunks, fillP, AOp.isEff, AO.ev, putP, PV.cells, PV.leaf, getB, getM, mapE, keyC, mapRows, mfind, eq1, eqL, scal, binP, unP, minP, maxP, foldP, PV.lt, PV.lt.ltL, endP, expoAll, expo, expo.expoL, frIds, frIds.frIdsL, nodupN, kill, cls, clsFuel, resO, RV.get, loadP, evC_p, evC_s, endS, endT, rowsOf, callP, thinL, unfr, unfr.unfrL, PV.noMem, PV.noMem.noMemL, optI, mapO, norm, trimT, trimB, forget, hasN, blksLt, List.set, S14a, eS, e1, e2, r1, g1, hk, hk', w1, h11, h, addV, spRows_app, spRows_one, m1, m2]
      · refine ⟨by simp [addV, h]; omega, ?_⟩
        unfold c14b1
        simp [evCode, evOps, evOne, evOp, evPur, evEff, evPur.chunks, fillP, AOp.isEff, AO.ev, putP, PV.cells, PV.leaf, getB, getM, mapE, keyC, mapRows, mfind, eq1, eqL, scal, binP, unP, minP, maxP, foldP, PV.lt, PV.lt.ltL, endP, expoAll, expo, expo.expoL, frIds, frIds.frIdsL, nodupN, kill, cls, clsFuel, resO, RV.get, loadP, evC_p, evC_s, endS, endT, rowsOf, callP, thinL, unfr, unfr.unfrL, PV.noMem, PV.noMem.noMemL, optI, mapO, norm, trimT, trimB, forget, hasN, blksLt, List.set, S14a, eS, e1, e2, r1, g1, hk, hk', w1, h11, h, addV])
    (by
      intro v hv s
      unfold c14b1
      simp [evCode, evOps, evOne, evOp, evPur, evEff, evPur.chunks, fillP, AOp.isEff, AO.ev, putP, PV.cells, PV.leaf, getB, getM, mapE, keyC, mapRows, mfind, eq1, eqL, scal, binP, unP, minP, maxP, foldP, PV.lt, PV.lt.ltL, endP, expoAll, expo, expo.expoL, frIds, frIds.frIdsL, nodupN, kill, cls, clsFuel, resO, RV.get, loadP, evC_p, evC_s, endS, endT, rowsOf, callP, thinL, unfr, unfr.unfrL, PV.noMem, PV.noMem.noMemL, optI, mapO, norm, trimT, trimB, forget, hasN, blksLt, List.set, S14a, eS, e1])
    (by omega) [] (by simp)
  rw [addV_fold, List.nil_append] at H1
  obtain ⟨v, hv⟩ := ex_eq (l.filter fun s => decide (vl s))
  have hvl : v.length ≤ l.length := by rw [← hv]; exact List.length_filter_le _ _
  have hN : norF l = (List.foldl joinS [] (Try.srt v)).reverse := by unfold norF; rw [hv, joinF_fold]
  rw [hv] at H1
  obtain ⟨u, hu⟩ := ex_eq (Try.srt v)
  have hul : v.length = u.length := by rw [← hu, srt_len]
  have H2 := loop_foldE (body := evCode (evC Dg) (l.length + 1) c14b0) (keep := [6, 25, 26, 27]) (n0 := 3) (fuel := l.length + 1) u (S14b u) joinS (fun k r => r.length ≤ k)
    (by
      intro k a r ha hk hr
      have hk' : (k : Int) < u.length := by omega
      have w1 := wrap_i64 ((k : Int) + 1) (by omega) (by omega)
      have r1 := spRows_get ha
      have g1 := spRows_got ha
      have e2 := spRows_len u
      have e3 := joinS_len r a
      refine ⟨by omega, ?_⟩
      cases r with
      | nil =>
        have w0 : IntKind.i64.wrap (-1) = -1 := rfl
        unfold c14b0
        simp [evCode, evOps, evOne, evOp, evPur, evEff, evPur.chunks, fillP, AOp.isEff, AO.ev, putP, PV.cells, PV.leaf, getB, getM, mapE, keyC, mapRows, mfind, eq1, eqL, scal, binP, unP, minP, maxP, foldP, PV.lt, PV.lt.ltL, endP, expoAll, expo, expo.expoL, frIds, frIds.frIdsL, nodupN, kill, cls, clsFuel, resO, RV.get, loadP, evC_p, evC_s, endS, endT, rowsOf, callP, thinL, unfr, unfr.unfrL, PV.noMem, PV.noMem.noMemL, optI, mapO, norm, trimT, trimB, forget, hasN, blksLt, List.set, S14b, e2, r1, g1, hk, hk', w1, w0, joinS, spRows_one, spRows_nil]
      | cons q r =>
        have e4 := spRows_len r.reverse
        rw [List.length_reverse] at e4
        have e5 : (spRows (r.reverse ++ [q])).length = r.length + 1 := by rw [spRows_len]; simp
        have r2 : (spRows (r.reverse ++ [q]))[r.length]? = some [.int .i64 q.1, .int .i64 q.2] := spRows_get (by simp)
        have g2 : ∀ h, (spRows (r.reverse ++ [q]))[r.length]'h = [.int .i64 q.1, .int .i64 q.2] := spRows_got (by simp)
        have w0 : IntKind.i64.wrap (r.length : Int) = r.length := wrap_i64 _ (by simp at hr; omega) (by simp at hr; omega)
        have st := fun y => sp_set r.reverse q y
        rw [List.length_reverse] at st
        by_cases h : a.1 ≤ q.2
        · by_cases h2 : q.2 < a.2
          · have st' := st (q.1, a.2)
            unfold c14b0
            simp [evCode, evOps, evOne, evOp, evPur, evEff, evPur.chunks, fillP, AOp.isEff, AO.ev, putP, PV.cells, PV.leaf, getB, getM, mapE, keyC, mapRows, mfind, eq1, eqL, scal, binP, unP, minP, maxP, foldP, PV.lt, PV.lt.ltL, endP, expoAll, expo, expo.expoL, frIds, frIds.frIdsL, nodupN, kill, cls, clsFuel, resO, RV.get, loadP, evC_p, evC_s, endS, endT, rowsOf, callP, thinL, unfr, unfr.unfrL, PV.noMem, PV.noMem.noMemL, optI, mapO, norm, trimT, trimB, forget, hasN, blksLt, List.set, S14b, e2, e5, r1, g1, r2, g2, hk, hk', w1, w0, joinS, h, h2, st']
          · have st' := st (q.1, q.2)
            unfold c14b0
            simp [evCode, evOps, evOne, evOp, evPur, evEff, evPur.chunks, fillP, AOp.isEff, AO.ev, putP, PV.cells, PV.leaf, getB, getM, mapE, keyC, mapRows, mfind, eq1, eqL, scal, binP, unP, minP, maxP, foldP, PV.lt, PV.lt.ltL, endP, expoAll, expo, expo.expoL, frIds, frIds.frIdsL, nodupN, kill, cls, clsFuel, resO, RV.get, loadP, evC_p, evC_s, endS, endT, rowsOf, callP, thinL, unfr, unfr.unfrL, PV.noMem, PV.noMem.noMemL, optI, mapO, norm, trimT, trimB, forget, hasN, blksLt, List.set, S14b, e2, e5, r1, g1, r2, g2, hk, hk', w1, w0, joinS, h, h2, st']
        · have m1 : (r.length + 1 + 1) * 16 ≤ 140737488355328 := by simp at hr; omega
          have m2 : r.length + 1 + 1 ≤ 140737488355328 := by simp at hr; omega
          have e6 : spRows (r.reverse ++ [q, a]) = spRows (r.reverse ++ [q]) ++ [[.int .i64 a.1, .int .i64 a.2]] := by rw [show r.reverse ++ [q, a] = (r.reverse ++ [q]) ++ [a] by simp, spRows_app (r.reverse ++ [q]), spRows_one]
          unfold c14b0
          simp [evCode, evOps, evOne, evOp, evPur, evEff, evPur.chunks, fillP, AOp.isEff, AO.ev, putP, PV.cells, PV.leaf, getB, getM, mapE, keyC, mapRows, mfind, eq1, eqL, scal, binP, unP, minP, maxP, foldP, PV.lt, PV.lt.ltL, endP, expoAll, expo, expo.expoL, frIds, frIds.frIdsL, nodupN, kill, cls, clsFuel, resO, RV.get, loadP, evC_p, evC_s, endS, endT, rowsOf, callP, thinL, unfr, unfr.unfrL, PV.noMem, PV.noMem.noMemL, optI, mapO, norm, trimT, trimB, forget, hasN, blksLt, List.set, S14b, e2, e5, r1, g1, r2, g2, hk, hk', w1, w0, joinS, h, m1, m2, e6])
    (by
      intro r hr s
      have e2 := spRows_len u
      unfold c14b0
      simp [evCode, evOps, evOne, evOp, evPur, evEff, evPur.chunks, fillP, AOp.isEff, AO.ev, putP, PV.cells, PV.leaf, getB, getM, mapE, keyC, mapRows, mfind, eq1, eqL, scal, binP, unP, minP, maxP, foldP, PV.lt, PV.lt.ltL, endP, expoAll, expo, expo.expoL, frIds, frIds.frIdsL, nodupN, kill, cls, clsFuel, resO, RV.get, loadP, evC_p, evC_s, endS, endT, rowsOf, callP, thinL, unfr, unfr.unfrL, PV.noMem, PV.noMem.noMemL, optI, mapO, norm, trimT, trimB, forget, hasN, blksLt, List.set, S14b, e2])
    (by omega) [] (by simp)
  have hS := s28 v [] (by omega)
  rw [hu] at hS hN
  refine evE_intro (l.length + 1) D14 rfl ?_
  unfold c14
  simp [evCode, evOps, evOne, evOp, evPur, evEff, evPur.chunks, fillP, AOp.isEff, AO.ev, putP, PV.cells, PV.leaf, getB, getM, mapE, keyC, mapRows, mfind, eq1, eqL, scal, binP, unP, minP, maxP, foldP, PV.lt, PV.lt.ltL, endP, expoAll, expo, expo.expoL, frIds, frIds.frIdsL, nodupN, kill, cls, clsFuel, resO, RV.get, loadP, evC_p, evC_s, endS, endT, rowsOf, callP, thinL, unfr, unfr.unfrL, PV.noMem, PV.noMem.noMemL, optI, mapO, norm, trimT, trimB, forget, hasN, blksLt, List.set, eS, e1]
  generalize hE : evLoop _ _ _ _ _ = E
  obtain ⟨E1, _⟩ := H1 _ _ hE (by simp [evCode, evOps, evOne, evOp, evPur, evEff, evPur.chunks, fillP, AOp.isEff, AO.ev, putP, PV.cells, PV.leaf, getB, getM, mapE, keyC, mapRows, mfind, eq1, eqL, scal, binP, unP, minP, maxP, foldP, PV.lt, PV.lt.ltL, endP, expoAll, expo, expo.expoL, frIds, frIds.frIdsL, nodupN, kill, cls, clsFuel, resO, RV.get, loadP, evC_p, evC_s, endS, endT, rowsOf, callP, thinL, unfr, unfr.unfrL, PV.noMem, PV.noMem.noMemL, optI, mapO, norm, trimT, trimB, forget, hasN, blksLt, List.set, S14a, eS, spRows_nil])
  rw [E1]
  have e2 : (spRows u).length = u.length := spRows_len u
  rw [hul] at hS
  unfold c14b1 c14r0
  simp [evCode, evOps, evOne, evOp, evPur, evEff, evPur.chunks, fillP, AOp.isEff, AO.ev, putP, PV.cells, PV.leaf, getB, getM, mapE, keyC, mapRows, mfind, eq1, eqL, scal, binP, unP, minP, maxP, foldP, PV.lt, PV.lt.ltL, endP, expoAll, expo, expo.expoL, frIds, frIds.frIdsL, nodupN, kill, cls, clsFuel, resO, RV.get, loadP, evC_p, evC_s, endS, endT, rowsOf, callP, thinL, unfr, unfr.unfrL, PV.noMem, PV.noMem.noMemL, optI, mapO, norm, trimT, trimB, forget, hasN, blksLt, List.set, S14a, eS, e1, hul, e2, hS]
  generalize hE2 : evLoop _ _ _ _ _ = E2
  obtain ⟨E3, _⟩ := H2 _ _ hE2 (by simp [evCode, evOps, evOne, evOp, evPur, evEff, evPur.chunks, fillP, AOp.isEff, AO.ev, putP, PV.cells, PV.leaf, getB, getM, mapE, keyC, mapRows, mfind, eq1, eqL, scal, binP, unP, minP, maxP, foldP, PV.lt, PV.lt.ltL, endP, expoAll, expo, expo.expoL, frIds, frIds.frIdsL, nodupN, kill, cls, clsFuel, resO, RV.get, loadP, evC_p, evC_s, endS, endT, rowsOf, callP, thinL, unfr, unfr.unfrL, PV.noMem, PV.noMem.noMemL, optI, mapO, norm, trimT, trimB, forget, hasN, blksLt, List.set, S14b, eS, spRows_nil])
  rw [E3]
  rw [hN]
  clear hE hE2 E1 E3 H1 H2
  generalize List.foldl joinS [] u = R
  have e7 : (spRows R.reverse).length = R.length := by rw [spRows_len, List.length_reverse]
  unfold c14b0
  simp [evCode, evOps, evOne, evOp, evPur, evEff, evPur.chunks, fillP, AOp.isEff, AO.ev, putP, PV.cells, PV.leaf, getB, getM, mapE, keyC, mapRows, mfind, eq1, eqL, scal, binP, unP, minP, maxP, foldP, PV.lt, PV.lt.ltL, endP, expoAll, expo, expo.expoL, frIds, frIds.frIdsL, nodupN, kill, cls, clsFuel, resO, RV.get, loadP, evC_p, evC_s, endS, endT, rowsOf, callP, thinL, unfr, unfr.unfrL, PV.noMem, PV.noMem.noMemL, optI, mapO, norm, trimT, trimB, forget, hasN, blksLt, List.set, S14b, e2, e7]
end Go.Proofs.Ytildbjepbnjbfaa
