/- itree: the examiner. -/
import Derived.Test.YtkodjmlhmpokoaaItP
import Derived.Test.YtkodjmlhmpokoaaItN
namespace Go.Proofs.Ytkodjmlhmpokoaa
open Go Go.RowKit
set_option linter.unusedVariables false
set_option linter.unusedSimpArgs false
set_option maxHeartbeats 4000000

def ob (x a b : Bool) (l : List Sp) (s : Sp) (v : Nat) (fnd : PV) : List (List PV) := [[eS x l, eI a (ordI l), eI b (mostP l), .int .i64 s.1, .int .i64 s.2, .int .i64 (v : Int), fnd]]
def ExI (x a b : Bool) (l : List Sp) (s : Sp) (e0 v : Nat) (d : List Nat) (bl : Blks) : Prop :=
  (d = [] ∧ bl[e0]? = some (some ⟨1, 7, true, ob x a b l s v .nilS⟩)) ∨ (∃ c, (c ≠ e0 ∧ d ≠ []) ∧ bl[c]? = some (some ⟨d.length, 1, true, nR d⟩) ∧ bl[e0]? = some (some ⟨1, 7, false, ob x a b l s v (.own c d.length 0 d.length)⟩))
theorem ExI.lt {x a b : Bool} {l : List Sp} {s : Sp} {e0 v : Nat} {d : List Nat} {bl : Blks} (h : ExI x a b l s e0 v d bl) : e0 < bl.length := by
  rcases h with ⟨_, h⟩ | ⟨c, _, _, h⟩ <;> exact (List.getElem?_eq_some_iff.1 h).1
theorem ExI.end_ {x a b : Bool} {l : List Sp} {s : Sp} {e0 v : Nat} {d : List Nat} {bl : Blks} {n0 : Nat} (h : ExI x a b l s e0 v d bl) (h0 : e0 < n0) (hn : n0 ≤ bl.length) :
    ∃ bl', endT n0 (.tup []) bl = (.tup [], bl') ∧ n0 ≤ bl'.length ∧ ExI x a b l s e0 v d bl' := by
  have key : ∀ y, bl[e0]? = some (some y) → ∃ t, n0 ≤ t ∧ t ≤ bl.length ∧ endT n0 (.tup []) bl = (.tup [], bl.take t) ∧ (∀ c, (∀ t, (y.flat || y.rows.all (PV.lt.ltL t)) = true → c < t) → c < bl.length → (bl.take t)[c]? = bl[c]?) := fun y hy => by
    obtain ⟨t, t1, t2, t3, t4, _, _⟩ := norm_pair (keep := [0]) (sl := [.tup []]) h0 hn hy
    exact ⟨t, t1, t2, by unfold endT; rw [t3], t4⟩
  rcases h with ⟨hd, h⟩ | ⟨c, hc, h1, h2⟩
  · obtain ⟨t, t1, t2, t3, _⟩ := key _ h
    refine ⟨_, t3, by simp; omega, .inl ⟨hd, ?_⟩⟩
    rw [List.getElem?_take_of_lt (by omega)]; exact h
  · obtain ⟨t, t1, t2, t3, t4⟩ := key _ h2
    refine ⟨_, t3, by simp; omega, .inr ⟨c, hc, ?_, ?_⟩⟩
    · rw [t4 c (fun t ht => by
        simp [ob, eS, eI, PV.lt.ltL, PV.lt] at ht
        exact ht) (List.getElem?_eq_some_iff.1 h1).1]
      exact h1
    · rw [List.getElem?_take_of_lt (by omega)]; exact h2
theorem ExI.visit {x a b : Bool} {l : List Sp} {s : Sp} {e0 v : Nat} {d : List Nat} {bl : Blks} (h : ExI x a b l s e0 v d bl) :
    ∃ fl fnd, bl[e0]? = some (some ⟨1, 7, fl, ob x a b l s v fnd⟩) ∧ ExI x a b l s e0 (v + 1) d (bl.set e0 (some ⟨1, 7, fl, ob x a b l s (v + 1) fnd⟩)) := by
  have hl := h.lt
  rcases h with ⟨hd, h⟩ | ⟨c, hc, h1, h2⟩
  · exact ⟨_, _, h, .inl ⟨hd, by simp [hl]⟩⟩
  · refine ⟨_, _, h2, .inr ⟨c, hc, ?_, by simp [hl]⟩⟩
    rw [List.getElem?_set_ne (Ne.symm hc.1)]; exact h1
theorem evS41 {args : List PV} {bl blf : Blks} {r : PV × Blks} (k : Nat) (hl : args.length = 3) (h : ∃ st, evCode (evC Dg) k c41.code ⟨args ++ List.replicate 88 .top, bl⟩ = some (.normal st) ∧ st.bl = blf) (hr : endT bl.length (.tup []) blf = r) : evS Dg 41 args bl = some r := by
  obtain ⟨st, h, rfl⟩ := h
  refine evS_intro k D41 hl ?_
  change endS [] bl.length (evCode (evC Dg) k c41.code ⟨args ++ List.replicate 88 .top, bl⟩) = _
  rw [h, ← hr]
  rfl
theorem evS41r {args : List PV} {bl blf : Blks} {r : PV × Blks} (k : Nat) (hl : args.length = 3) (h : ∃ st, evCode (evC Dg) k c41.code ⟨args ++ List.replicate 88 .top, bl⟩ = some (.ret st) ∧ st.bl = blf) (hr : endT bl.length (.tup []) blf = r) : evS Dg 41 args bl = some r := by
  obtain ⟨st, h, rfl⟩ := h
  refine evS_intro k D41 hl ?_
  change endS [] bl.length (evCode (evC Dg) k c41.code ⟨args ++ List.replicate 88 .top, bl⟩) = _
  rw [h, ← hr]
  rfl
theorem got_of {bl : Blks} {i : Nat} {y : Option Blk} (h : bl[i]? = some y) : ∀ q, bl[i]'q = y := fun q => by
  rw [List.getElem?_eq_getElem q] at h
  exact Option.some.inj h
/-- one more is found -/
theorem ExI.app {x a b : Bool} {l : List Sp} {s : Sp} {e0 v : Nat} {d : List Nat} {bl : Blks} (i : Nat) (h : ExI x a b l s e0 v d bl) :
    (bl[e0]? = some (some ⟨1, 7, true, ob x a b l s v .nilS⟩) ∧ d = [] ∧ ExI x a b l s e0 v (d ++ [i]) (bl.set e0 (some ⟨1, 7, false, ob x a b l s v (.own bl.length 1 0 1)⟩) ++ [some (⟨1, 1, true, [[.int .i64 (i : Int)]]⟩ : Blk)])) ∨
    (∃ c, bl[c]? = some (some ⟨d.length, 1, true, nR d⟩) ∧ c ≠ e0 ∧ bl[e0]? = some (some ⟨1, 7, false, ob x a b l s v (.own c d.length 0 d.length)⟩) ∧ ExI x a b l s e0 v (d ++ [i]) ((bl.set c (some ⟨d.length + 1, 1, true, nR d ++ [[.int .i64 (i : Int)]]⟩)).set e0 (some ⟨1, 7, false, ob x a b l s v (.own c (d.length + 1) 0 (d.length + 1))⟩))) := by
  have hl := h.lt
  rcases h with ⟨rfl, h⟩ | ⟨c, hc, h1, h2⟩
  · left
    refine ⟨h, rfl, .inr ⟨bl.length, ⟨by omega, by simp⟩, ?_, ?_⟩⟩
    · rw [List.getElem?_append_right (by simp)]; simp [nR]
    · rw [List.getElem?_append_left (by simp; exact hl), List.getElem?_set_self hl]; rfl
  · right
    have hcl := (List.getElem?_eq_some_iff.1 h1).1
    refine ⟨c, h1, hc.1, h2, .inr ⟨c, ⟨hc.1, by simp⟩, ?_, ?_⟩⟩
    · rw [List.getElem?_set_ne (Ne.symm hc.1)]
      simp [hcl, nR]
    · simp [hl]
set_option maxRecDepth 100000 in
theorem f41 (x a b : Bool) (l : List Sp) (s : Sp) (hl : l.length ≤ 1000000) : ∀ (f lo hi : Nat), hi - lo ≤ f → hi ≤ l.length → lo ≤ 1000001 → ∀ e0 v d bl, ExI x a b l s e0 v d bl → v + (hi - lo) ≤ 2000000 → d.length + (hi - lo) ≤ 2000000 →
    ∃ bl', evS Dg 41 [.ptr e0 1 0 0, .int .i64 lo, .int .i64 hi] bl = some (.tup [], bl') ∧ bl.length ≤ bl'.length ∧ ExI x a b l s e0 (v + exv l s f lo hi) (d ++ exf l s f lo hi) bl' := by
  have base : ∀ (f lo hi : Nat), hi ≤ lo → hi ≤ l.length → lo ≤ 1000001 → ∀ e0 v d bl, ExI x a b l s e0 v d bl →
      ∃ bl', evS Dg 41 [.ptr e0 1 0 0, .int .i64 lo, .int .i64 hi] bl = some (.tup [], bl') ∧ bl.length ≤ bl'.length ∧ ExI x a b l s e0 (v + exv l s f lo hi) (d ++ exf l s f lo hi) bl' := by
    intro f lo hi hh hhn hlo e0 v d bl h
    have z1 : exv l s f lo hi = 0 := by cases f with
      | zero => rfl
      | succ f => unfold exv; rw [if_pos (.inl hh)]
    have z2 : exf l s f lo hi = [] := by cases f with
      | zero => rfl
      | succ f => unfold exf; rw [if_pos (.inl hh)]
    rw [z1, z2, List.append_nil, Nat.add_zero]
    obtain ⟨bl', q1, q2, q3⟩ := h.end_ h.lt (Nat.le_refl _)
    refine ⟨bl', evS41r 1 rfl ?_ q1, q2, q3⟩
    have w1 := wrap_i64 ((lo : Int) + hi) (by omega) (by omega)
    have hr : Int.tdiv ((lo : Int) + hi) 2 = (((lo + hi) / 2 : Nat) : Int) := by
      rw [Int.tdiv_eq_ediv_of_nonneg (by omega)]; omega
    have w2 := wrap_i64 (((lo + hi) / 2 : Nat) : Int) (by omega) (by omega)
    have h1 : (hi : Int) ≤ lo := by omega
    unfold c41
    simp [evCode, evOps, evOne, evOp, evPur, evEff, evPur.chunks, fillP, AOp.isEff, AO.ev, putP, PV.cells, PV.leaf, getB, getM, mapE, iterE, keyC, mapRows, mfind, eq1, eqL, scal, binP, unP, minP, maxP, foldP, PV.lt, PV.lt.ltL, endP, expoAll, expoG, expo, expo.expoL, frIds, frIds.frIdsL, nodupN, kill, cls, clsFuel, resO, RV.get, loadP, evC_p, evC_s, endS, endT, rowsOf, callP, thinL, unfr, unfr.unfrL, PV.noMem, PV.noMem.noMemL, optI, mapO, norm, trimT, trimB, forget, hasN, blksLt, List.set, softChk, softGo, softRd, effTg, rdP, h1, w1, hr, w2]
  intro f
  induction f with
  | zero => exact fun lo hi h1 h2 h3 e0 v d bl h _ _ => base 0 lo hi (by omega) h2 h3 e0 v d bl h
  | succ f ih =>
    intro lo hi h1 h2 h3 e0 v d bl hE hv hd
    by_cases hh : hi ≤ lo
    · exact base (f + 1) lo hi hh h2 h3 e0 v d bl hE
    · have w1 := wrap_i64 ((lo : Int) + hi) (by omega) (by omega)
      have hr : Int.tdiv ((lo : Int) + hi) 2 = (((lo + hi) / 2 : Nat) : Int) := by
        rw [Int.tdiv_eq_ediv_of_nonneg (by omega)]; omega
      have hr1 : lo ≤ (lo + hi) / 2 := by omega
      have hr2 : (lo + hi) / 2 < hi := by omega
      have v1 := exv_le l s f lo ((lo + hi) / 2) (by omega)
      have v2 := exv_le l s f ((lo + hi) / 2 + 1) hi (by omega)
      have y1 := exf_le l s f lo ((lo + hi) / 2)
      have y2 := exf_le l s f ((lo + hi) / 2 + 1) hi
      have i1 := ih lo ((lo + hi) / 2) (by omega) (by omega) h3 e0
      have i2 := ih ((lo + hi) / 2 + 1) hi (by omega) h2 (by omega) e0
      rw [exv, exf]
      generalize hre : (lo + hi) / 2 = r at *
      have w2 := wrap_i64 (r : Int) (by omega) (by omega)
      have w3 := wrap_i64 ((r : Int) + 1) (by omega) (by omega)
      have gO := iR_get (ordI_get l r (by omega))
      have gM := iR_get (mostP_get l r (by omega))
      have gO' := iR_got (ordI_get l r (by omega))
      have gM' := iR_got (mostP_get l r (by omega))
      obtain ⟨_, hO, hs, _⟩ := spA_pos l r (by omega)
      have lO := iR_len (ordI l)
      have lM := iR_len (mostP l)
      rw [ordI_len] at lO
      rw [mostP_len] at lM
      have rS := spRows_get hs
      have rS' := spRows_got hs
      have lS := spRows_len l
      have c1 : ¬ (hi : Int) ≤ lo := by omega
      have c2 : (r : Int) < l.length := by omega
      have c2' : r < l.length := by omega
      have c3 : ((oAt l r : Nat) : Int) < l.length := by omega
      have w4 := wrap_i64 ((v : Int) + 1) (by omega) (by omega)
      have e56 := f56 (spA l (oAt l r)) s
      simp only [vS] at e56
      by_cases k1 : mAt l r ≤ s.1
      · rw [if_pos (.inr k1), if_pos (.inr k1), List.append_nil, Nat.add_zero]
        obtain ⟨bl', q1, q2, q3⟩ := hE.end_ hE.lt (Nat.le_refl _)
        refine ⟨bl', evS41r 1 rfl ?_ q1, q2, q3⟩
        obtain ⟨fl, fnd, hb, _⟩ := hE.visit
        have hbg := got_of hb
        have el := hE.lt
        unfold c41
        simp [evCode, evOps, evOne, evOp, evPur, evEff, evPur.chunks, fillP, AOp.isEff, AO.ev, putP, PV.cells, PV.leaf, getB, getM, mapE, iterE, keyC, mapRows, mfind, eq1, eqL, scal, binP, unP, minP, maxP, foldP, PV.lt, PV.lt.ltL, endP, expoAll, expoG, expo, expo.expoL, frIds, frIds.frIdsL, nodupN, kill, cls, clsFuel, resO, RV.get, loadP, evC_p, evC_s, endS, endT, rowsOf, callP, thinL, unfr, unfr.unfrL, PV.noMem, PV.noMem.noMemL, optI, mapO, norm, trimT, trimB, forget, hasN, blksLt, List.set, softChk, softGo, softRd, effTg, rdP, ob, eI, eS, c1, c2, c2', w1, hr, w2, hb, hbg, el, gM, gM', lM, k1]
      · have k0 : ¬ (hi ≤ lo ∨ mAt l r ≤ s.1) := fun h => h.elim hh k1
        rw [if_neg k0, if_neg k0]
        obtain ⟨fl, fnd, hb, hV⟩ := hE.visit
        have hbg := got_of hb
        have el := hE.lt
        obtain ⟨bl2, s2, L2, I2⟩ := i1 (v + 1) d _ hV (by omega) (by omega)
        simp only [List.length_set] at L2
        obtain ⟨fl2, fnd2, hb2, _⟩ := I2.visit
        have hbg2 := got_of hb2
        have el2 := I2.lt
        have L2' : ¬ bl2.length < bl.length := by omega
        simp only [ob, eI, eS] at s2 i2
        push_cast at s2 i2
        by_cases k2 : (spA l (oAt l r)).1 < s.2
        · rw [if_pos k2, if_pos k2]
          by_cases k3 : comB (spA l (oAt l r)) s = true
          · rw [if_pos k3]
            rw [k3] at e56
            have A := I2.app (oAt l r)
            have hdl : d.length + (exf l s f lo r).length ≤ 2000000 := by omega
            rcases A with ⟨hb2, hd0, I3⟩ | ⟨c, hc1, hc2, hb2, I3⟩
            · have hbg2 := got_of hb2
              obtain ⟨bl3, s3, L3, I4⟩ := i2 _ _ _ I3 (by omega) (by simp; omega)
              simp only [ob, eI, eS] at s3
              push_cast at s3
              simp only [List.length_set, List.length_append, List.length_singleton] at L3
              have hb0 : ∀ b, Nat.blt b 0 = false := fun b => by cases b <;> rfl
              obtain ⟨bl', q1, q2, q3⟩ := I4.end_ el (by omega)
              refine ⟨bl', evS41 1 rfl ?_ q1, q2, ?_⟩
              · have el2' : e0 < bl2.length + 1 := by omega
                have hA1 : ∀ y, (bl2 ++ [y])[e0]? = bl2[e0]? := fun y => List.getElem?_append_left el2
                have L3' : bl2.length ≤ bl3.length := by omega
                unfold c41
                simp [evCode, evOps, evOne, evOp, evPur, evEff, evPur.chunks, fillP, AOp.isEff, AO.ev, putP, PV.cells, PV.leaf, getB, getM, mapE, iterE, keyC, mapRows, mfind, eq1, eqL, scal, binP, unP, minP, maxP, foldP, PV.lt, PV.lt.ltL, endP, expoAll, expoG, expo, expo.expoL, frIds, frIds.frIdsL, nodupN, kill, cls, clsFuel, resO, RV.get, loadP, evC_p, evC_s, endS, endT, rowsOf, callP, thinL, unfr, unfr.unfrL, PV.noMem, PV.noMem.noMemL, optI, mapO, norm, trimT, trimB, forget, hasN, blksLt, List.set, softChk, softGo, softRd, effTg, rdP, ob, eI, eS, c1, c2, c2', c3, hO, w1, hr, w2, w3, w4, hb, hbg, el, gM, gM', lM, gO, gO', lO, rS, rS', lS, k1, s2, L2, hb2, hbg2, el2, el2', hA1, hb0, k2, e56, s3, L3, L3']
              · simpa [Nat.add_assoc, Nat.add_comm, Nat.add_left_comm] using q3
            · have hbg2 := got_of hb2
              have hcg := got_of hc1
              have hcl := (List.getElem?_eq_some_iff.1 hc1).1
              obtain ⟨bl3, s3, L3, I4⟩ := i2 _ _ _ I3 (by omega) (by simp; omega)
              simp only [ob, eI, eS] at s3
              push_cast at s3
              simp only [List.length_set] at L3
              obtain ⟨bl', q1, q2, q3⟩ := I4.end_ el (by omega)
              refine ⟨bl', evS41 1 rfl ?_ q1, q2, ?_⟩
              · have hb0 : ∀ b, Nat.blt b 0 = false := fun b => by cases b <;> rfl
                have eN := nR_len (d ++ exf l s f lo r)
                have hs1 : ∀ y, (bl2.set c y)[e0]? = bl2[e0]? := fun y => List.getElem?_set_ne hc2
                have hs2 := fun y => got_of ((hs1 y).trans hb2)
                generalize hD : d ++ exf l s f lo r = dd at *
                have hdd : dd.length ≤ 2000000 := by rw [← hD]; simp; omega
                have b1 : (dd.length + 1) * 8 ≤ 140737488355328 := by omega
                have b2 : dd.length + 1 ≤ 140737488355328 := by omega
                unfold c41
                simp [evCode, evOps, evOne, evOp, evPur, evEff, evPur.chunks, fillP, AOp.isEff, AO.ev, putP, PV.cells, PV.leaf, getB, getM, mapE, iterE, keyC, mapRows, mfind, eq1, eqL, scal, binP, unP, minP, maxP, foldP, PV.lt, PV.lt.ltL, endP, expoAll, expoG, expo, expo.expoL, frIds, frIds.frIdsL, nodupN, kill, cls, clsFuel, resO, RV.get, loadP, evC_p, evC_s, endS, endT, rowsOf, callP, thinL, unfr, unfr.unfrL, PV.noMem, PV.noMem.noMemL, optI, mapO, norm, trimT, trimB, forget, hasN, blksLt, List.set, softChk, softGo, softRd, effTg, rdP, ob, eI, eS, c1, c2, c2', c3, hO, w1, hr, w2, w3, w4, hb, hbg, el, gM, gM', lM, gO, gO', lO, rS, rS', lS, k1, s2, L2, hb2, hbg2, hc1, hcg, hcl, hs1, hs2, hb0, eN, b1, b2, el2, k2, e56, s3, L3]
              · simpa [Nat.add_assoc, Nat.add_comm, Nat.add_left_comm] using q3
          · rw [if_neg k3]
            simp only [Bool.not_eq_true] at k3
            rw [k3] at e56
            obtain ⟨bl3, s3, L3, I3⟩ := i2 _ _ _ I2 (by omega) (by simp; omega)
            obtain ⟨bl', q1, q2, q3⟩ := I3.end_ el (by omega)
            refine ⟨bl', evS41 1 rfl ?_ q1, q2, ?_⟩
            · unfold c41
              simp [evCode, evOps, evOne, evOp, evPur, evEff, evPur.chunks, fillP, AOp.isEff, AO.ev, putP, PV.cells, PV.leaf, getB, getM, mapE, iterE, keyC, mapRows, mfind, eq1, eqL, scal, binP, unP, minP, maxP, foldP, PV.lt, PV.lt.ltL, endP, expoAll, expoG, expo, expo.expoL, frIds, frIds.frIdsL, nodupN, kill, cls, clsFuel, resO, RV.get, loadP, evC_p, evC_s, endS, endT, rowsOf, callP, thinL, unfr, unfr.unfrL, PV.noMem, PV.noMem.noMemL, optI, mapO, norm, trimT, trimB, forget, hasN, blksLt, List.set, softChk, softGo, softRd, effTg, rdP, ob, eI, eS, c1, c2, c2', c3, hO, w1, hr, w2, w3, w4, hb, hbg, el, gM, gM', lM, gO, gO', lO, rS, rS', lS, k1, s2, L2, hb2, hbg2, el2, k2, e56, s3, L3]
            · simpa [Nat.add_assoc, Nat.add_comm, Nat.add_left_comm] using q3
        · rw [if_neg k2, if_neg k2]
          obtain ⟨bl', q1, q2, q3⟩ := I2.end_ el (by omega)
          refine ⟨bl', evS41 1 rfl ?_ q1, q2, ?_⟩
          · unfold c41
            simp [evCode, evOps, evOne, evOp, evPur, evEff, evPur.chunks, fillP, AOp.isEff, AO.ev, putP, PV.cells, PV.leaf, getB, getM, mapE, iterE, keyC, mapRows, mfind, eq1, eqL, scal, binP, unP, minP, maxP, foldP, PV.lt, PV.lt.ltL, endP, expoAll, expoG, expo, expo.expoL, frIds, frIds.frIdsL, nodupN, kill, cls, clsFuel, resO, RV.get, loadP, evC_p, evC_s, endS, endT, rowsOf, callP, thinL, unfr, unfr.unfrL, PV.noMem, PV.noMem.noMemL, optI, mapO, norm, trimT, trimB, forget, hasN, blksLt, List.set, softChk, softGo, softRd, effTg, rdP, ob, eI, eS, c1, c2, c2', c3, hO, w1, hr, w2, w3, w4, hb, hbg, el, gM, gM', lM, gO, gO', lO, rS, rS', lS, k1, s2, L2, hb2, hbg2, el2, k2]
          · simpa [Nat.add_assoc, Nat.add_comm, Nat.add_left_comm] using q3
end Go.Proofs.Ytkodjmlhmpokoaa
