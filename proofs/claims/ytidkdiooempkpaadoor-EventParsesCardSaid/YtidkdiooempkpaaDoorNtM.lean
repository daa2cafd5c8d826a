/- several parts in one. -/
-- LATT
import Derived.Test.YtidkdiooempkpaaDoorEtK
/- num: the reference's Text. -/
namespace Go.Proofs.YtidkdiooempkpaaDoor
open Go Go.RowKit Go.Lib
attribute [local simp] evCode evOps evOne evOp evPur evEff evPur.chunks fillP AOp.isEff AO.ev putP PV.cells PV.leaf getB getM mapE iterE keyC mapRows mfind eq1 eqL scal binP unP minP maxP foldP PV.lt PV.lt.ltL endP expoAll expoG expo expo.expoL frIds frIds.frIdsL nodupN kill cls clsFuel resO RV.get loadP evC_p evC_s endS endT rowsOf callP thinL unfr unfr.unfrL PV.noMem PV.noMem.noMemL optI mapO norm trimT trimB forget hasN blksLt List.set softChk softGo softRd effTg tgOf chgN sameB PV.same PV.same.sameL PV.same.sameLL rdP
set_option linter.unusedVariables false
set_option linter.unusedSimpArgs false
set_option maxHeartbeats 8000000

theorem ex_eq {α : Type} (x : α) : ∃ y, x = y := ⟨_, rfl⟩
def inB (n : Int) : Bool := decide (-1000000000000000 ≤ n) && decide (n ≤ 1000000000000000)
theorem inB_iff (n : Int) : inB n = true ↔ -1000000000000000 ≤ n ∧ n ≤ 1000000000000000 := by simp [inB]

theorem f58 (n : Int) : evE Dg 58 [.int .i64 n] = some (.bool (inB n)) := by
  refine evE_intro 1 D58 rfl ?_
  unfold c58
  by_cases h1 : -1000000000000000 ≤ n
  · by_cases h2 : n ≤ 1000000000000000 <;> simp [inB, h1, h2]
  · simp [inB, h1]
theorem f62 (n : Int) : evE Dg 62 [.int .i64 n] = some (.bool (inB n)) := by
  refine evE_intro 1 D62 rfl ?_
  unfold c62
  by_cases h1 : -1000000000000000 ≤ n
  · by_cases h2 : n ≤ 1000000000000000 <;> simp [inB, h1, h2]
  · simp [inB, h1]
theorem inB_false (n : Int) : inB n = false ↔ (n < -1000000000000000 ∨ 1000000000000000 < n) := by
  cases h : inB n
  · simp
    have : ¬ (-1000000000000000 ≤ n ∧ n ≤ 1000000000000000) := fun hh => by rw [(inB_iff n).2 hh] at h; cases h
    omega
  · rw [inB_iff] at h; simp; omega
theorem inB_neg (n : Int) : inB (-n) = inB n := by
  cases h : inB n
  · rw [inB_false] at h ⊢; omega
  · rw [inB_iff] at h ⊢; omega

theorem itoa_pos (u : Nat) (h : u < 10) : itoa (u : Int) = [UInt8.ofNat (48 + u)] := by
  unfold itoa
  rw [if_neg (by omega), decDigits, dif_pos (by omega)]
  simp
theorem itoa_min (u : Nat) (h : u < 10) (h0 : 0 < u) : itoa (-(u : Int)) = [45, UInt8.ofNat (48 + u)] := by
  unfold itoa
  rw [if_pos (by omega), decDigits, dif_pos (by omega)]
  simp
def isS : Option PV → List UInt8 → Bool
  | some (.str a), b => a == b
  | _, _ => false
theorem isS_eq {x : Option PV} {b : List UInt8} (h : isS x b = true) : x = some (.str b) := by
  unfold isS at h
  split at h
  · simp at h; subst h; rfl
  · cases h
theorem small_pos : (List.range 10).all (fun n => isS ((evF Dg 12).p 33 [.int .i64 (n : Int)]) [UInt8.ofNat (48 + n)]) = true := by kernel_rfl
theorem small_min : (List.range 9).all (fun n => isS ((evF Dg 12).p 33 [.int .i64 (-((n + 1 : Nat) : Int))]) [45, UInt8.ofNat (48 + (n + 1))]) = true := by kernel_rfl
theorem f26_small (n : Int) (h : -10 < n ∧ n < 10) : evE Dg 33 [.int .i64 n] = some (.str (itoa n)) := by
  by_cases h0 : 0 ≤ n
  · obtain ⟨u, rfl⟩ := Int.eq_ofNat_of_zero_le h0
    have := List.all_eq_true.1 small_pos u (List.mem_range.2 (by omega))
    rw [itoa_pos u (by omega)]
    exact evE_of (isS_eq this)
  · obtain ⟨u, hu⟩ := Int.eq_ofNat_of_zero_le (show 0 ≤ -n - 1 by omega)
    have e : n = -((u + 1 : Nat) : Int) := by omega
    have := List.all_eq_true.1 small_min u (List.mem_range.2 (by omega))
    rw [e, itoa_min (u + 1) (by omega) (by omega)]
    exact evE_of (isS_eq this)
theorem rem_pos (n : Int) (h : 0 ≤ n) : n.tmod 10 = ((n.natAbs % 10 : Nat) : Int) := by
  rw [Int.tmod_eq_emod_of_nonneg h]; omega
theorem rem_neg (n : Int) (h : n < 0) : n.tmod 10 = -((n.natAbs % 10 : Nat) : Int) := by
  have : n.tmod 10 = -((-n).tmod 10) := by rw [Int.neg_tmod, Int.neg_neg]
  rw [this, Int.tmod_eq_emod_of_nonneg (by omega)]; omega
def dgs : List UInt8 := [48, 49, 50, 51, 52, 53, 54, 55, 56, 57]
theorem dgs_at : ∀ d : _root_.Fin 10, (dgs.take (d.val + 1)).drop d.val = [UInt8.ofNat (48 + d.val)] := by decide
set_option maxRecDepth 100000 in
theorem f33 (n : Int) (hn : -9223372036854775808 ≤ n ∧ n ≤ 9223372036854775807) : evE Dg 33 [.int .i64 n] = some (.str (itoa n)) := by
  generalize hk : n.natAbs = k
  induction k using Nat.strongRecOn generalizing n with
  | _ k ih =>
    by_cases hs : -10 < n ∧ n < 10
    · exact f26_small n hs
    · have e1 : (n.tdiv 10).natAbs = n.natAbs / 10 := by rw [Int.natAbs_tdiv]; rfl
      have h26 := ih (n.natAbs / 10) (by omega) (n.tdiv 10) (by omega) e1
      have hstep := itoa_step n (by omega)
      rw [hstep]
      have wq : IntKind.i64.wrap (n.tdiv 10) = n.tdiv 10 := wrap_i64 _ (by omega) (by omega)
      obtain ⟨q, hq⟩ := ex_eq (n.tdiv 10)
      obtain ⟨tq, htq⟩ := ex_eq (itoa q)
      rw [hq] at wq h26 ⊢
      rw [htq] at h26 ⊢
      have tl : tq.length ≤ 9223372036854775806 := by
        have := itoa_len20 q (by omega)
        rw [htq] at this; omega
      obtain ⟨d, hd⟩ := ex_eq (n.natAbs % 10)
      have hd10 : d < 10 := by omega
      rw [hd]
      have at0 : List.drop d (48 :: List.take d [49, 50, 51, 52, 53, 54, 55, 56, 57]) = [UInt8.ofNat (48 + d)] := dgs_at ⟨d, hd10⟩
      have g1 : (d : Int) ≤ (d : Int) + 1 := by omega
      have g2 : (d : Int) + 1 ≤ 10 := by omega
      have w1 : IntKind.i64.wrap ((d : Int) + 1) = ((d + 1 : Nat) : Int) := by rw [wrap_i64 _ (by omega) (by omega)]; omega
      have wd : IntKind.i64.wrap (d : Int) = d := wrap_i64 _ (by omega) (by omega)
      by_cases h0 : 0 ≤ n
      · have r := rem_pos n h0
        rw [hd] at r
        have c1 : ¬ n < 0 := by omega
        have c2 : ¬ n < 10 := by omega
        have c3 : ¬ (d : Int) < 0 := by omega
        have c4 : d + 1 ≤ 10 := by omega
        refine evE_intro 1 D33 rfl ?_
        unfold c33
        simp [tl, c1, c2, c3, c4, h0, r, hq, wq, h26, w1, wd, at0, g1, g2]
      · have r := rem_neg n (by omega)
        rw [hd] at r
        have c1 : n < 0 := by omega
        have c2 : ¬ -10 < n := by omega
        have c5 : ¬ 0 ≤ n := h0
        have c4 : d + 1 ≤ 10 := by omega
        by_cases z : d = 0
        · subst z
          have w10 : IntKind.i64.wrap 1 = 1 := rfl
          refine evE_intro 1 D33 rfl ?_
          unfold c33
          simp [tl, c1, c2, c5, r, hq, wq, h26, w1, w10, wd, at0]
        · have c3 : -(d : Int) < 0 := by omega
          have z' : 0 < d := by omega
          refine evE_intro 1 D33 rfl ?_
          unfold c33
          simp [tl, c1, c2, c3, c4, c5, r, hq, wq, h26, w1, wd, at0, g1, g2, z', Int.neg_neg]
end Go.Proofs.YtidkdiooempkpaaDoor
/- num: Text, Parse, the reference's Parse. -/
namespace Go.Proofs.YtidkdiooempkpaaDoor
open Go Go.RowKit Go.Lib
attribute [local simp] evCode evOps evOne evOp evPur evEff evPur.chunks fillP AOp.isEff AO.ev putP PV.cells PV.leaf getB getM mapE iterE keyC mapRows mfind eq1 eqL scal binP unP minP maxP foldP PV.lt PV.lt.ltL endP expoAll expoG expo expo.expoL frIds frIds.frIdsL nodupN kill cls clsFuel resO RV.get loadP evC_p evC_s endS endT rowsOf callP thinL unfr unfr.unfrL PV.noMem PV.noMem.noMemL optI mapO norm trimT trimB forget hasN blksLt List.set softChk softGo softRd effTg tgOf chgN sameB PV.same PV.same.sameL PV.same.sameLL rdP
set_option linter.unusedVariables false
set_option linter.unusedSimpArgs false
set_option maxHeartbeats 8000000

theorem f57 (l : List UInt8) (h : l.length ≤ 1000000) : evE Dg 57 [.str l] = some (endA l (atoiAll l)) :=
  evE_ext D57 rfl (by simp only [xAtoi]; rw [if_pos h])
theorem f24_yes (n : Int) (hb : inB n = true) : evE Dg 51 [.str (itoa n)] = some (.tup [.int .i64 n, .bool true]) := by
  have hn := (inB_iff n).1 hb
  have hl := itoa_len n hn
  have h35 := f57 (itoa n) (by omega)
  rw [atoi_itoa n hn] at h35
  simp only [endA] at h35
  have h23 := f29 n (by omega)
  have h14 := f58 n
  rw [hb] at h14
  generalize itoa n = l at h35 h23 ⊢
  refine evE_intro 1 D51 rfl ?_
  unfold c51
  simp [h35, h23, h14]
theorem f24_no (l : List UInt8) (hl : l.length ≤ 1000000) (h : ∀ n, inB n = true → itoa n ≠ l) : evE Dg 51 [.str l] = some (.tup [.int .i64 0, .bool false]) := by
  have h35 := f57 l hl
  cases hat : atoiAll l with
  | ok v =>
    rw [hat] at h35
    simp only [endA] at h35
    have h14 := f58 v
    cases hb : inB v with
    | true =>
      have hv := (inB_iff v).1 hb
      have h23 := f29 v (by omega)
      have hne := h v hb
      rw [hb] at h14
      generalize itoa v = t at h23 hne
      refine evE_intro 1 D51 rfl ?_
      unfold c51
      simp [h35, h23, h14, hne]
    | false =>
      rw [hb] at h14
      refine evE_intro 1 D51 rfl ?_
      unfold c51
      simp [h35, h14]
  | range =>
    rw [hat] at h35
    simp only [endA] at h35
    refine evE_intro 1 D51 rfl ?_
    unfold c51
    simp [h35]
  | _ =>
    rw [hat] at h35
    simp only [endA] at h35
    refine evE_intro 1 D51 rfl ?_
    unfold c51
    simp [h35]
end Go.Proofs.YtidkdiooempkpaaDoor
/- num: the reference's Parse. -/
namespace Go.Proofs.YtidkdiooempkpaaDoor
open Go Go.RowKit Go.Lib
attribute [local simp] evCode evOps evOne evOp evPur evEff evPur.chunks fillP AOp.isEff AO.ev putP PV.cells PV.leaf getB getM mapE iterE keyC mapRows mfind eq1 eqL scal binP unP minP maxP foldP PV.lt PV.lt.ltL endP expoAll expoG expo expo.expoL frIds frIds.frIdsL nodupN kill cls clsFuel resO RV.get loadP evC_p evC_s endS endT rowsOf callP thinL unfr unfr.unfrL PV.noMem PV.noMem.noMemL optI mapO norm trimT trimB forget hasN blksLt List.set softChk softGo softRd effTg tgOf chgN sameB PV.same PV.same.sameL PV.same.sameLL rdP
set_option linter.unusedVariables false
set_option linter.unusedSimpArgs false
set_option maxHeartbeats 8000000

theorem loop_stop {σ : Type} {body : St → Option Out} {keep : List Nat} {n0 : Nat} (S : σ → St) (μ : σ → Nat) (I : σ → Prop) (stop : σ → Prop)
    (h : ∀ x, I x → ¬ stop x → ∃ x' s', body (S x) = some (.normal s') ∧ norm keep n0 s' = S x' ∧ I x' ∧ μ x' < μ x) (hs : ∀ x, I x → stop x → ∀ s, body (S x) ≠ some (.normal s))
    {fuel : Nat} (x0 : σ) (hI0 : I x0) (hf : μ x0 < fuel) (s0 : St) (E : Option Out) (hE : evLoop body keep n0 fuel s0 = E) (h0 : norm keep n0 s0 = S x0) : ∃ x, I x ∧ stop x ∧ E = body (S x) := by
  subst hE
  induction fuel generalizing x0 s0 with
  | zero => omega
  | succ f ih =>
    by_cases hst : stop x0
    · refine ⟨x0, hI0, hst, ?_⟩
      rw [evLoop, h0]
      have := hs x0 hI0 hst
      split
      · rename_i s hb; exact absurd hb (this s)
      · rfl
    · obtain ⟨x', s', h1, h2, h3, h4⟩ := h x0 hI0 hst
      rw [evLoop, h0, h1]
      exact ih x' h3 (by omega) s' h2


def S53 (l : List UInt8) (k : Nat) : St := ⟨[.str l, .top, .top, .top, .int .i64 (dsum 0 (l.take k) : Nat), .int .i64 k] ++ List.replicate 47 .top, []⟩
theorem dsum_step {l : List UInt8} {k : Nat} {a : UInt8} (h : l[k]? = some a) : dsum 0 (l.take (k + 1)) = if 48 ≤ a.toNat ∧ a.toNat ≤ 57 then dsum 0 (l.take k) * 10 + (a.toNat - 48) else dsum 0 (l.take k) := by
  rw [List.take_add_one, h, dsum_app]
  simp only [Option.toList_some, dsum]
theorem loop25 (l : List UInt8) (hl : l.length ≤ 17) (E : Option Out) (s0 : St) (hE : evLoop (evCode (evC Dg) 20 c53b0) [0, 4, 5] 0 20 s0 = E) (h0 : norm [0, 4, 5] 0 s0 = S53 l 0) :
    E = evCode (evC Dg) 20 c53b0 (S53 l l.length) := by
  have H := loop_stop (body := evCode (evC Dg) 20 c53b0) (keep := [0, 4, 5]) (n0 := 0) (fuel := 20) (S53 l) (fun k => l.length - k) (fun k => k ≤ l.length) (fun k => k = l.length)
    (by
      intro k hk hs
      have hlt : k < l.length := by omega
      obtain ⟨a, ha⟩ : ∃ a, l[k]? = some a := ⟨_, List.getElem?_eq_getElem hlt⟩
      have hg : ∀ h : k < l.length, l[k]'h = a := fun h => by rw [List.getElem?_eq_getElem h] at ha; exact Option.some.inj ha
      have hst := dsum_step ha
      have hb : dsum 0 (l.take k) < 10 ^ 17 := by
        have := dsum_lt (l.take k) 0 0 (by decide)
        have h2 : 10 ^ (0 + (l.take k).length) ≤ 10 ^ 17 := Nat.pow_le_pow_right (by decide) (by rw [List.length_take]; omega)
        omega
      obtain ⟨s, hs'⟩ := ex_eq (dsum 0 (l.take k))
      obtain ⟨s2, hs2⟩ := ex_eq (dsum 0 (l.take (k + 1)))
      obtain ⟨z, hz⟩ := ex_eq a.toNat
      rw [hs2, hs', hz] at hst
      rw [hs'] at hb
      have hz2 : z < 256 := by rw [← hz]; exact a.toNat_lt
      have hk' : (k : Int) < l.length := by omega
      have w0 := wrap_i64 ((k : Int) + 1) (by omega) (by omega)
      refine ⟨k + 1, ?_⟩
      by_cases c : 48 ≤ z ∧ z ≤ 57
      · rw [if_pos c] at hst
        have c1 : (48 : Int) ≤ z := by omega
        have c2 : (z : Int) ≤ 57 := by omega
        have c1' : 48 ≤ z := by omega
        have c2' : z ≤ 57 := by omega
        have w1 := wrap_i64 (10 * (s : Int)) (by omega) (by omega)
        have w2 : IntKind.u8.wrap ((z : Int) - 48) = ((z - 48 : Nat) : Int) := by
          have e : (z : Int) - 48 = ((z - 48 : Nat) : Int) := by omega
          rw [e]
          simp [IntKind.wrap, IntKind.signed, IntKind.bits]
          omega
        have w3 : IntKind.i64.wrap ((z - 48 : Nat) : Int) = ((z - 48 : Nat) : Int) := wrap_i64 _ (by omega) (by omega)
        have w4 : IntKind.i64.wrap (10 * (s : Int) + ((z - 48 : Nat) : Int)) = (s2 : Int) := by rw [wrap_i64 _ (by omega) (by omega)]; omega
        unfold c53b0
        simp [S53, hs', hs2, ha, hg, hz, hk', hlt, w0, c1, c2, c1', c2', w1, w2, w3, w4]
        omega
      · rw [if_neg c] at hst
        by_cases c1' : 48 ≤ z
        · have c2' : ¬ z ≤ 57 := by omega
          have c1 : (48 : Int) ≤ z := by omega
          have c2 : ¬ (z : Int) ≤ 57 := by omega
          unfold c53b0
          simp [S53, hs', hs2, hst, ha, hg, hz, hk', hlt, w0, c1, c2, c1', c2']
          omega
        · have c1 : ¬ (48 : Int) ≤ z := by omega
          unfold c53b0
          simp [S53, hs', hs2, hst, ha, hg, hz, hk', hlt, w0, c1, c1']
          omega)
    (by
      intro k _ hk s
      subst hk
      unfold c53b0
      simp [S53])
    0 (Nat.zero_le _) (by omega) s0 E hE h0
  obtain ⟨k, _, hk, h⟩ := H
  subst hk
  exact h

theorem f25_long (l : List UInt8) (hl : 17 < l.length) : evE Dg 53 [.str l] = some (.tup [.int .i64 0, .bool false]) := by
  have h1 : (17 : Int) < l.length := by omega
  refine evE_intro 20 D53 rfl ?_
  unfold c53
  simp [h1, hl]
theorem f25_yes (n : Int) (hb : inB n = true) : evE Dg 53 [.str (itoa n)] = some (.tup [.int .i64 n, .bool true]) := by
  have hn := (inB_iff n).1 hb
  have hl := itoa_len n hn
  have hd := dsum_itoa n
  have hN : inB (n.natAbs : Int) = true := (inB_iff _).2 (by omega)
  have h15 := f62 (n.natAbs : Int)
  rw [hN] at h15
  have h26 := f33 (n.natAbs : Int) (by omega)
  have h26n := f33 (-(n.natAbs : Int)) (by omega)
  have wN := wrap_i64 (-(n.natAbs : Int)) (by omega) (by omega)
  have H := loop25 (itoa n) hl
  have hl1 : ¬ (17 : Int) < ((itoa n).length : Int) := by omega
  by_cases h0 : 0 ≤ n
  · have e : (n.natAbs : Int) = n := by omega
    rw [e] at h26 h15
    obtain ⟨N, hNN⟩ := ex_eq n.natAbs
    obtain ⟨l, hll⟩ := ex_eq (itoa n)
    rw [hll] at H hl1 hl hd h26 ⊢
    rw [hNN] at hd e
    subst e
    refine evE_intro 20 D53 rfl ?_
    unfold c53
    simp [hl1, hl]
    generalize hE : evLoop _ _ _ _ _ = E
    have g := H _ _ hE (by simp [S53, dsum])
    rw [g]
    unfold c53b0
    simp [S53, hd]
    unfold c53r0
    simp [h15, h26]
  · have hne : itoa (n.natAbs : Int) ≠ itoa n := fun h => by
      have := itoa_inj (by omega) hn h
      omega
    have e : -(n.natAbs : Int) = n := by omega
    rw [e] at h26n wN
    obtain ⟨N, hNN⟩ := ex_eq n.natAbs
    obtain ⟨l, hll⟩ := ex_eq (itoa n)
    rw [hll] at H hl1 hl hd hne h26n ⊢
    rw [hNN] at hd e h26 h15 hne
    obtain ⟨t, ht⟩ := ex_eq (itoa (N : Int))
    rw [ht] at h26 hne
    subst e
    refine evE_intro 20 D53 rfl ?_
    unfold c53
    simp [hl1, hl]
    generalize hE : evLoop _ _ _ _ _ = E
    have g := H _ _ hE (by simp [S53, dsum])
    rw [g]
    unfold c53b0
    simp [S53, hd]
    unfold c53r0
    simp [h15, h26, hne, wN, h26n]
theorem f25_no (l : List UInt8) (h : ∀ n, inB n = true → itoa n ≠ l) : evE Dg 53 [.str l] = some (.tup [.int .i64 0, .bool false]) := by
  by_cases hl : 17 < l.length
  · exact f25_long l hl
  · have hl' : l.length ≤ 17 := by omega
    have hl1 : ¬ (17 : Int) < (l.length : Int) := by omega
    have H := loop25 l hl'
    obtain ⟨N, hd⟩ := ex_eq (dsum 0 l)
    have h15 := f62 (N : Int)
    cases hN : inB (N : Int) with
    | true =>
      have hb := (inB_iff _).1 hN
      have h26 := f33 (N : Int) (by omega)
      have h26n := f33 (-(N : Int)) (by omega)
      have n1 := h (N : Int) hN
      have n2 := h (-(N : Int)) (by rw [inB_neg, hN])
      have wN := wrap_i64 (-(N : Int)) (by omega) (by omega)
      rw [hN] at h15
      obtain ⟨t, ht⟩ := ex_eq (itoa (N : Int))
      obtain ⟨t2, ht2⟩ := ex_eq (itoa (-(N : Int)))
      rw [ht] at h26 n1
      rw [ht2] at h26n n2
      refine evE_intro 20 D53 rfl ?_
      unfold c53
      simp [hl1, hl]
      generalize hE : evLoop _ _ _ _ _ = E
      have g := H _ _ hE (by simp [S53, dsum])
      rw [g]
      unfold c53b0
      simp [S53, hd]
      unfold c53r0
      simp [h15, h26, h26n, n1, n2, wN]
    | false =>
      rw [hN] at h15
      refine evE_intro 20 D53 rfl ?_
      unfold c53
      simp [hl1, hl]
      generalize hE : evLoop _ _ _ _ _ = E
      have g := H _ _ hE (by simp [S53, dsum])
      rw [g]
      unfold c53b0
      simp [S53, hd]
      unfold c53r0
      simp [h15]
end Go.Proofs.YtidkdiooempkpaaDoor
