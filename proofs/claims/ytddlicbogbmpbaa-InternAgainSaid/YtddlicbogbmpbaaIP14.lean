/- intern: InternFull. -/
import Derived.Test.YtddlicbogbmpbaaIP12
namespace Go.Proofs.Ytddlicbogbmpbaa
open Go Go.RowKit
set_option linter.unusedVariables false
set_option linter.unusedSimpArgs false
set_option maxHeartbeats 4000000

/-- the digits of a number -/
def digs : Nat → Nat → List UInt8
  | 0, _ => []
  | f + 1, n => if n < 10 then [UInt8.ofNat (48 + n)] else digs f (n / 10) ++ [UInt8.ofNat (48 + n % 10)]
theorem digs_succ (f n : Nat) : digs (f + 1) n = if n < 10 then [UInt8.ofNat (48 + n)] else digs f (n / 10) ++ [UInt8.ofNat (48 + n % 10)] := rfl
def word (n : Nat) : List UInt8 := 119 :: digs 20 n

theorem digs_fuel : ∀ (f g n : Nat), n < 10 ^ f → n < 10 ^ g → digs (f + 1) n = digs (g + 1) n
  | 0, g, n, h, h' => by
    simp at h; subst h
    simp [digs]
  | f + 1, 0, n, h, h' => by
    simp at h'; subst h'
    simp [digs]
  | f + 1, g + 1, n, h, h' => by
    rw [digs_succ (f + 1), digs_succ (g + 1)]
    split
    · rfl
    · rw [digs_fuel f g (n / 10) (by rw [Nat.pow_succ] at h; omega) (by rw [Nat.pow_succ] at h'; omega)]

def S24 (u : Nat × List UInt8) : St := ⟨[.int .i64 u.1, .top, .top, .str u.2] ++ List.replicate 20 .top, []⟩
theorem f24 (n : Nat) (hn : n < 100000) : evE Dg 24 [.int .i64 n] = some (.str (word n)) := by
  refine evE_intro (n + 2) D24 rfl ?_
  have H := loop_stop (body := evCode (evC Dg) (n + 2) c24b0) (keep := [0, 3]) (n0 := 0) (fuel := n + 2) S24 (fun u => u.1)
    (fun u => u.1 ≤ n ∧ u.2.length ≤ n ∧ u.2.length + u.1 ≤ n ∧ digs 20 u.1 ++ u.2 = digs 20 n) (fun u => u.1 < 10)
    (by
      rintro ⟨m, r⟩ ⟨i1, i2, i3, i4⟩ hs
      simp only at i1 i2 i3 i4 hs
      have c1 : (10 : Int) ≤ m := by omega
      have t1 : (m : Int).tmod 10 = (m : Int) % 10 := Int.tmod_eq_emod_of_nonneg (by omega)
      have t2 : (m : Int).tdiv 10 = (m : Int) / 10 := Int.tdiv_eq_ediv_of_nonneg (by omega)
      have w1 : IntKind.i64.wrap (48 + (m : Int) % 10) = 48 + (m : Int) % 10 := wrap_i64 _ (by omega) (by omega)
      have w2 : IntKind.u8.wrap (48 + (m : Int) % 10) = 48 + (m : Int) % 10 := wrap_u8 _ (by omega) (by omega)
      have w3 : IntKind.i64.wrap ((m : Int) / 10) = (m : Int) / 10 := wrap_i64 _ (by omega) (by omega)
      have w4 : (48 + (m : Int) % 10).toNat = 48 + m % 10 := by omega
      have m1 : 1 + r.length ≤ 9223372036854775807 := by omega
      refine ⟨(m / 10, UInt8.ofNat (48 + m % 10) :: r), ?_⟩
      have e : digs 20 m = digs 20 (m / 10) ++ [UInt8.ofNat (48 + m % 10)] := by
        rw [digs_succ 19, if_neg (by omega)]
        congr 1
        exact digs_fuel 18 19 (m / 10) (by omega) (by omega)
      rw [e] at i4
      unfold c24b0
      simp only [List.append_assoc, List.singleton_append] at i4
      simp [evCode, evOps, evOne, evOp, evPur, evEff, evPur.chunks, fillP, AOp.isEff, AO.ev, putP, PV.cells, PV.leaf, getB, getM, mapE, keyC, mapRows, mfind, eq1, eqL, scal, binP, unP, minP, maxP, foldP, PV.lt, PV.lt.ltL, endP, expoAll, expo, expo.expoL, frIds, frIds.frIdsL, nodupN, kill, cls, clsFuel, resO, RV.get, loadP, evC_p, evC_s, endS, endT, rowsOf, callP, thinL, unfr, unfr.unfrL, PV.noMem, PV.noMem.noMemL, optI, mapO, norm, trimT, trimB, forget, hasN, blksLt, List.set, S24, c1, t1, t2, w1, w2, w3, w4, m1, bytesOfRows, i4, -UInt8.ofNat_add]
      omega)
    (by
      rintro ⟨m, r⟩ hI hs s
      simp only at hs
      have c1 : ¬ (10 : Int) ≤ m := by omega
      unfold c24b0
      simp [evCode, evOps, evOne, evOp, evPur, evEff, evPur.chunks, fillP, AOp.isEff, AO.ev, putP, PV.cells, PV.leaf, getB, getM, mapE, keyC, mapRows, mfind, eq1, eqL, scal, binP, unP, minP, maxP, foldP, PV.lt, PV.lt.ltL, endP, expoAll, expo, expo.expoL, frIds, frIds.frIdsL, nodupN, kill, cls, clsFuel, resO, RV.get, loadP, evC_p, evC_s, endS, endT, rowsOf, callP, thinL, unfr, unfr.unfrL, PV.noMem, PV.noMem.noMemL, optI, mapO, norm, trimT, trimB, forget, hasN, blksLt, List.set, S24, c1]) (n, []) (by simp) (by simp)
  unfold c24
  simp [evCode, evOps, evOne, evOp, evPur, evEff, evPur.chunks, fillP, AOp.isEff, AO.ev, putP, PV.cells, PV.leaf, getB, getM, mapE, keyC, mapRows, mfind, eq1, eqL, scal, binP, unP, minP, maxP, foldP, PV.lt, PV.lt.ltL, endP, expoAll, expo, expo.expoL, frIds, frIds.frIdsL, nodupN, kill, cls, clsFuel, resO, RV.get, loadP, evC_p, evC_s, endS, endT, rowsOf, callP, thinL, unfr, unfr.unfrL, PV.noMem, PV.noMem.noMemL, optI, mapO, norm, trimT, trimB, forget, hasN, blksLt, List.set]
  generalize hE : evLoop _ _ _ _ _ = E
  obtain ⟨⟨m, r⟩, ⟨i1, i2, i3, i4⟩, hs, hb⟩ := H _ _ hE (by simp [evCode, evOps, evOne, evOp, evPur, evEff, evPur.chunks, fillP, AOp.isEff, AO.ev, putP, PV.cells, PV.leaf, getB, getM, mapE, keyC, mapRows, mfind, eq1, eqL, scal, binP, unP, minP, maxP, foldP, PV.lt, PV.lt.ltL, endP, expoAll, expo, expo.expoL, frIds, frIds.frIdsL, nodupN, kill, cls, clsFuel, resO, RV.get, loadP, evC_p, evC_s, endS, endT, rowsOf, callP, thinL, unfr, unfr.unfrL, PV.noMem, PV.noMem.noMemL, optI, mapO, norm, trimT, trimB, forget, hasN, blksLt, List.set, S24])
  simp only at i1 i2 i3 i4 hs
  rw [hb]
  have c1 : ¬ (10 : Int) ≤ m := by omega
  have w1 : IntKind.i64.wrap ((48 : Int) + m) = 48 + (m : Int) := wrap_i64 _ (by omega) (by omega)
  have w2 : IntKind.u8.wrap (48 + (m : Int)) = 48 + (m : Int) := wrap_u8 _ (by omega) (by omega)
  have w4 : (48 + (m : Int)).toNat = 48 + m := by omega
  have e : digs 20 m = [UInt8.ofNat (48 + m)] := by
    rw [digs_succ 19, if_pos hs]
  rw [e] at i4
  have m1 : r.length + 1 + 1 ≤ 9223372036854775807 := by omega
  have m2 : 2 + r.length ≤ 9223372036854775807 := by omega
  have m3 : r.length ≤ 9223372036854775805 := by omega
  unfold c24b0
  simp [evCode, evOps, evOne, evOp, evPur, evEff, evPur.chunks, fillP, AOp.isEff, AO.ev, putP, PV.cells, PV.leaf, getB, getM, mapE, keyC, mapRows, mfind, eq1, eqL, scal, binP, unP, minP, maxP, foldP, PV.lt, PV.lt.ltL, endP, expoAll, expo, expo.expoL, frIds, frIds.frIdsL, nodupN, kill, cls, clsFuel, resO, RV.get, loadP, evC_p, evC_s, endS, endT, rowsOf, callP, thinL, unfr, unfr.unfrL, PV.noMem, PV.noMem.noMemL, optI, mapO, norm, trimT, trimB, forget, hasN, blksLt, List.set, S24, c1, w1, w2, w4, m1, m2, m3, bytesOfRows, word, ← i4, -UInt8.ofNat_add]

def numW (l : List UInt8) : Nat := l.foldl (fun n c => n * 10 + (c.toNat - 48)) 0
theorem words_ok : (List.range 1004).all (fun i => nameOk (word i) && Nat.beq (numW (word i).tail) i) = true := by decide +kernel
theorem word_ok {i : Nat} (h : i < 1004) : nameOk (word i) = true := by
  have := List.all_eq_true.1 words_ok i (by simp [h])
  simp at this; exact this.1
theorem word_inj {i j : Nat} (hi : i < 1004) (hj : j < 1004) (h : word i = word j) : i = j := by
  have a := List.all_eq_true.1 words_ok i (by simp [hi])
  have b := List.all_eq_true.1 words_ok j (by simp [hj])
  simp at a b
  rw [h] at a
  omega

def wn (k : Nat) : List (List UInt8) := (List.range k).map word
def wT (k : Nat) : List (Int × Int) := (List.range k).map fun (i : Nat) => ((-1 : Int), (i : Int))
theorem w_mem {k i : Nat} (hk : k ≤ 1000) (hi : i < 1004) : word i ∈ wn k ↔ i < k := by
  unfold wn
  rw [List.mem_map]
  constructor
  · rintro ⟨j, hj, e⟩
    rw [List.mem_range] at hj
    have := word_inj (by omega) hi e
    omega
  · exact fun h => ⟨i, by simpa using h, rfl⟩
theorem w_nodup (k : Nat) (hk : k ≤ 1000) : (wn k).Nodup := by
  unfold wn
  rw [List.nodup_iff_pairwise_ne, List.pairwise_map]
  refine List.Pairwise.imp_of_mem ?_ List.pairwise_lt_range
  intro a b ha hb hab e
  rw [List.mem_range] at ha hb
  have := word_inj (by omega) (by omega) e
  omega
theorem t_nodup (k : Nat) : (wT k).Nodup := by
  unfold wT
  rw [List.nodup_iff_pairwise_ne, List.pairwise_map]
  refine List.Pairwise.imp_of_mem ?_ List.pairwise_lt_range
  intro a b ha hb hab e
  simp at e; omega
theorem wn_get {k i : Nat} (h : i < k) : (wn k)[i]? = some (word i) := by simp [wn, h]
theorem wT_get {k i : Nat} (h : i < k) : (wT k)[i]? = some (-1, (i : Int)) := by simp [wT, h]
theorem idx_none {α : Type} [DecidableEq α] {l : List α} {a : α} (h : ¬ a ∈ l) : idx l a = -1 := by
  unfold idx
  rw [List.findIdx?_eq_none_iff.2 (fun x hx => by simp; exact fun e => h (e ▸ hx))]
theorem frames_one {i : Nat} (hi : i < 1004) : framesE [word i] = 0 := by simp [framesE, word_ok hi]
/-- a word that is new -/
theorem put_new {k : Nat} (hk : k < 1000) : putS (wn k) (wT k) [word k] = ((k : Int), wn (k + 1), wT (k + 1), 0) := by
  have h1 : idx (wn k) (word k) = -1 := idx_none (fun h => by have := (w_mem (by omega) (by omega)).1 h; omega)
  have h2 : idx (wT k) (-1, (k : Int)) = -1 := idx_none (fun h => by
    unfold wT at h
    rw [List.mem_map] at h
    obtain ⟨j, hj, e⟩ := h
    rw [List.mem_range] at hj
    simp at e; omega)
  have l1 : (wn k).length = k := by simp [wn]
  have l2 : (wT k).length = k := by simp [wT]
  have e : putR (wn k) (word k) = ((k : Int), wn (k + 1), 0) := by
    unfold putR
    rw [if_pos (word_ok (by omega)), h1, if_neg (by omega), if_neg (by omega), l1]
    simp [wn, List.range_succ]
  unfold putS
  rw [if_pos (frames_one (by omega))]
  simp only [foldX, stepP, e, if_true, h2]
  rw [if_neg (by omega), if_neg (by omega), l2]
  simp [wT, List.range_succ]
/-- a word that is there -/
theorem put_old {k i : Nat} (hk : k ≤ 1000) (hi : i < k) : putS (wn k) (wT k) [word i] = ((i : Int), wn k, wT k, 0) := by
  have h1 : idx (wn k) (word i) = i := idx_nodup (w_nodup k hk) (wn_get hi)
  have h2 : idx (wT k) (-1, (i : Int)) = i := idx_nodup (t_nodup k) (wT_get hi)
  have e : putR (wn k) (word i) = ((i : Int), wn k, 0) := by
    unfold putR
    rw [if_pos (word_ok (by omega)), h1, if_pos (by omega)]
  unfold putS
  rw [if_pos (frames_one (by omega))]
  simp only [foldX, stepP, e, if_true, h2]
  rw [if_pos (by omega)]
/-- a word for which there is no room -/
theorem put_full {i : Nat} (h1 : 1000 ≤ i) (h2 : i < 1004) : putS (wn 1000) (wT 1000) [word i] = (0, wn 1000, wT 1000, 6) := by
  have h3 : idx (wn 1000) (word i) = -1 := idx_none (fun h => by have := (w_mem (by omega) (by omega)).1 h; omega)
  have l1 : (wn 1000).length = 1000 := by simp [wn]
  have e : putR (wn 1000) (word i) = (0, wn 1000, 6) := by
    unfold putR
    rw [if_pos (word_ok (by omega)), h3, if_neg (by omega), if_pos (by omega)]
  unfold putS
  rw [if_pos (frames_one (by omega))]
  simp only [foldX, stepP, e]
  rw [if_neg (by omega)]
end Go.Proofs.Ytddlicbogbmpbaa
