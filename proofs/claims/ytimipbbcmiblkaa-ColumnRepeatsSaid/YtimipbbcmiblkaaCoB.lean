/- column: PutInt. -/
import Derived.Test.YtimipbbcmiblkaaEvP
namespace Go.Proofs.Ytimipbbcmiblkaa
open Go Go.RowKit
set_option linter.unusedVariables false
set_option linter.unusedSimpArgs false
set_option maxHeartbeats 4000000

def bR (l : List Nat) : List (List PV) := l.map fun (z : Nat) => [PV.int .u8 (z : Int)]
theorem bR_len (l : List Nat) : (bR l).length = l.length := by simp [bR]
theorem bR_get {l : List Nat} {k : Nat} {z : Nat} (h : l[k]? = some z) : (bR l)[k]? = some [.int .u8 (z : Int)] := by simp [bR, h]
theorem bR_got {l : List Nat} {k : Nat} {z : Nat} (h : l[k]? = some z) : ∀ q, (bR l)[k]'q = [.int .u8 (z : Int)] := fun q => by
  have := bR_get h
  rw [List.getElem?_eq_getElem q] at this
  exact Option.some.inj this
theorem bR_app (a b : List Nat) : bR (a ++ b) = bR a ++ bR b := by simp [bR]
theorem bR_take (l : List Nat) (n : Nat) : (bR l).take n = bR (l.take n) := by simp [bR, List.map_take]
theorem bR_drop (l : List Nat) (n : Nat) : (bR l).drop n = bR (l.drop n) := by simp [bR, List.map_drop]
theorem bR_set (l : List Nat) (k z : Nat) : (bR l).set k [PV.int .u8 (z : Int)] = bR (l.set k z) := by simp [bR, List.map_set]
theorem bR_all (l : List Nat) : (bR l).all (PV.lt.ltL 0) = true := by
  rw [List.all_eq_true]
  intro r hr
  simp only [bR, List.mem_map] at hr
  obtain ⟨z, _, rfl⟩ := hr
  rfl
theorem bR_lt (l : List Nat) : (∀ r, r ∈ bR l → PV.lt.ltL 0 r = true) ↔ True := iff_true_intro (List.all_eq_true.1 (bR_all l))
theorem ex_eq {α : Type} (t : α) : ∃ q, t = q := ⟨_, rfl⟩
/-- the number whose groups are written -/
def zz (n : Int) : Nat := if 0 ≤ n then (2 * n).toNat else (-2 * n - 1).toNat
theorem zz_lt {n : Int} (h1 : -9223372036854775808 ≤ n) (h2 : n ≤ 9223372036854775807) : zz n < 18446744073709551616 := by
  unfold zz
  split <;> omega
theorem xor_ones (a : Int) (h1 : 0 ≤ a) (h2 : a < 18446744073709551616) : (BitVec.ofInt 64 a ^^^ BitVec.ofInt 64 18446744073709551615).toNat = (18446744073709551615 - a).toNat := by
  rw [show BitVec.ofInt 64 18446744073709551615 = BitVec.allOnes 64 by decide, BitVec.xor_allOnes, BitVec.toNat_not, BitVec.toNat_ofInt]
  omega
/-- the groups of a number: the last is below 128 -/
def encU : Nat → Nat → List Nat
  | 0, u => [u]
  | f + 1, u => if u < 128 then [u] else (u % 128 + 128) :: encU f (u / 128)
/-- the groups after k rounds -/
def gps (u : Nat) (k : Nat) : List Nat := (List.range k).map fun j => u / 128 ^ j % 128 + 128
theorem gps_succ (u k : Nat) : gps u (k + 1) = gps u k ++ [u / 128 ^ k % 128 + 128] := by
  unfold gps
  rw [List.range_succ, List.map_append]
  rfl
theorem gps_len (u k : Nat) : (gps u k).length = k := by simp [gps]
theorem encU_gps (u : Nat) : ∀ f k, u / 128 ^ k < 128 ^ (f + 1) → ∃ m, k ≤ m ∧ m ≤ k + f ∧ u / 128 ^ m < 128 ∧ (∀ j, k ≤ j → j < m → 128 ≤ u / 128 ^ j) ∧ gps u k ++ encU f (u / 128 ^ k) = gps u m ++ [u / 128 ^ m]
  | 0, k, h => ⟨k, Nat.le_refl _, Nat.le_refl _, by simpa using h, fun j h1 h2 => by omega, rfl⟩
  | f + 1, k, h => by
    by_cases c : u / 128 ^ k < 128
    · exact ⟨k, Nat.le_refl _, by omega, c, fun j h1 h2 => by omega, by unfold encU; rw [if_pos c]⟩
    · have hd : u / 128 ^ (k + 1) = u / 128 ^ k / 128 := by rw [Nat.pow_succ, Nat.div_div_eq_div_mul]
      have hlt : u / 128 ^ (k + 1) < 128 ^ (f + 1) := by
        rw [hd]
        rw [Nat.pow_succ] at h
        exact Nat.div_lt_of_lt_mul (by rw [Nat.mul_comm]; exact h)
      obtain ⟨m, h1, h2, h3, h4, h5⟩ := encU_gps u f (k + 1) hlt
      refine ⟨m, by omega, by omega, h3, fun j j1 j2 => ?_, ?_⟩
      · by_cases e : j = k
        · rw [e]; omega
        · exact h4 j (by omega) j2
      · rw [← h5, gps_succ, encU, if_neg c, hd]
        simp
def putI (n : Int) : List Nat := encU 9 (zz n)
theorem putI_gps {n : Int} (h1 : -9223372036854775808 ≤ n) (h2 : n ≤ 9223372036854775807) : ∃ m, m ≤ 9 ∧ zz n / 128 ^ m < 128 ∧ (∀ j, j < m → 128 ≤ zz n / 128 ^ j) ∧ putI n = gps (zz n) m ++ [zz n / 128 ^ m] := by
  have h := zz_lt h1 h2
  obtain ⟨m, _, m2, m3, m4, m5⟩ := encU_gps (zz n) 9 0 (by simp; omega)
  refine ⟨m, by omega, m3, fun j hj => m4 j (Nat.zero_le _) hj, ?_⟩
  have : gps (zz n) 0 = [] := rfl
  rw [this, List.nil_append, Nat.pow_zero, Nat.div_one] at m5
  exact m5
/-- the array in the loop -/
def arr (u k : Nat) : List Nat := gps u k ++ List.replicate (10 - k) 0
theorem arr_len {u k : Nat} (h : k ≤ 10) : (arr u k).length = 10 := by simp [arr, gps_len]; omega
theorem arr_set {u k : Nat} (h : k < 10) (z : Nat) : (arr u k).set k z = gps u k ++ [z] ++ List.replicate (10 - (k + 1)) 0 := by
  unfold arr
  rw [List.set_append_right _ _ (by rw [gps_len]; exact Nat.le_refl _), gps_len, Nat.sub_self, show 10 - k = (10 - (k + 1)) + 1 by omega, List.replicate_succ, List.set_cons_zero]
  simp
theorem arr_get {u k : Nat} (h : k < 10) : (arr u k)[k]? = some 0 := by
  unfold arr
  rw [List.getElem?_append_right (by rw [gps_len]; exact Nat.le_refl _), gps_len, Nat.sub_self, List.getElem?_replicate, if_pos (by omega)]
theorem arr_succ {u k : Nat} (h : k < 10) : (arr u k).set k (u / 128 ^ k % 128 + 128) = arr u (k + 1) := by
  rw [arr_set h]
  unfold arr
  rw [gps_succ]
theorem or128 : ∀ r : Nat, r < 256 → r ||| 128 = r % 128 + 128 := by decide +kernel
def S45 (u k : Nat) : St := ⟨[.nilS, .top, .top, .top, .top, .int .u64 ((u / 128 ^ k : Nat) : Int), .ptr 1 10 0 0, .int .i64 (k : Int)] ++ List.replicate 32 .top, [some ⟨0, 1, true, []⟩, some ⟨10, 1, true, bR (arr u k)⟩]⟩
theorem u8_of (q : Nat) : IntKind.u8.wrap (q : Int) = ((q % 256 : Nat) : Int) := by simp [IntKind.wrap, IntKind.signed, IntKind.bits]
set_option maxRecDepth 100000 in
theorem step45 (u k : Nat) (hu : u < 18446744073709551616) (hk : k < 9) (hc : 128 ≤ u / 128 ^ k) (f : Nat) : ∃ s', evCode (evC Dg) f c45b0 (S45 u k) = some (.normal s') ∧ norm [0, 5, 6, 7] 2 s' = S45 u (k + 1) := by
  have hd : u / 128 ^ (k + 1) = u / 128 ^ k / 128 := by rw [Nat.pow_succ, Nat.div_div_eq_div_mul]
  have hle : u / 128 ^ k ≤ u := Nat.div_le_self _ _
  have gA := bR_get (arr_get (u := u) (show k < 10 by omega))
  have gA' := bR_got (arr_get (u := u) (show k < 10 by omega))
  have lA := bR_len (arr u k)
  rw [arr_len (by omega)] at lA
  have sA := bR_set (arr u k) k (u / 128 ^ k % 128 + 128)
  rw [arr_succ (by omega)] at sA
  unfold S45
  rw [hd]
  generalize u / 128 ^ k = q at *
  have c1 : (128 : Int) ≤ (q : Int) := by omega
  have w1 := u8_of q
  have w2 : (q % 256) % 2 ^ IntKind.u8.bits ||| 128 % 2 ^ IntKind.u8.bits = q % 128 + 128 := by
    show (q % 256) % 256 ||| 128 % 256 = _
    rw [Nat.mod_eq_of_lt (show q % 256 < 256 by omega), show 128 % 256 = 128 from rfl, or128 _ (by omega)]
    omega
  have w3 : IntKind.u8.wrap ((q % 128 + 128 : Nat) : Int) = ((q % 128 + 128 : Nat) : Int) := by rw [u8_of]; omega
  have w4 : (q : Int).fdiv (2 ^ Nat.min 7 IntKind.u64.bits) = ((q / 128 : Nat) : Int) := by
    show (q : Int).fdiv 128 = _
    rw [Int.fdiv_eq_ediv_of_nonneg _ (by omega)]; omega
  have w5 : IntKind.u64.wrap ((q / 128 : Nat) : Int) = ((q / 128 : Nat) : Int) := by simp [IntKind.wrap, IntKind.signed, IntKind.bits]; omega
  have w6 : IntKind.i64.wrap ((k : Int) + 1) = (k : Int) + 1 := wrap_i64 _ (by omega) (by omega)
  have k1 : (k : Int) < 10 := by omega
  have k2 : k < 10 := by omega
  obtain ⟨t, ht⟩ := ex_eq (q % 128 + 128)
  rw [ht] at w2 w3 sA
  obtain ⟨p, hp⟩ := ex_eq (q % 256)
  rw [hp] at w1 w2
  obtain ⟨r, hr⟩ := ex_eq (q / 128)
  rw [hr] at w4 w5
  have n1 : Nat.blt 1 2 = true := rfl
  unfold c45b0
  simp [evCode, evOps, evOne, evOp, evPur, evEff, evPur.chunks, fillP, AOp.isEff, AO.ev, putP, PV.cells, PV.leaf, getB, getM, mapE, iterE, keyC, mapRows, mfind, eq1, eqL, scal, binP, unP, minP, maxP, foldP, PV.lt, PV.lt.ltL, endP, expoAll, expoG, expo, expo.expoL, frIds, frIds.frIdsL, nodupN, kill, cls, clsFuel, resO, RV.get, loadP, evC_p, evC_s, endS, endT, rowsOf, callP, thinL, unfr, unfr.unfrL, PV.noMem, PV.noMem.noMemL, optI, mapO, norm, trimT, trimB, forget, hasN, blksLt, List.set, softChk, softGo, softRd, effTg, rdP, c1, w1, w2, w3, w4, w5, w6, k1, k2, gA, gA', lA, sA, hr]
end Go.Proofs.Ytimipbbcmiblkaa
