/- Plain mathematics: the register is linear, and a halving loses nothing. Imports nothing of the program. -/
import Derived.Test.YtlpphnhamfgmiaaPlain
namespace Go.Proofs.Ytlpphnhamfgmiaa
open Go

theorem xor_div2 (a b : Nat) : (a ^^^ b) / 2 = a / 2 ^^^ b / 2 := by
  have := Nat.shiftRight_xor_distrib (a := a) (b := b) (i := 1)
  simpa [Nat.shiftRight_eq_div_pow] using this
theorem half_eq (r : Nat) : half r = r / 2 ^^^ (if r % 2 = 1 then 3988292384 else 0) := by
  unfold half; split <;> simp
theorem half_xor (a b : Nat) : half (a ^^^ b) = half a ^^^ half b := by
  rw [half_eq, half_eq a, half_eq b, xor_div2]
  have hm : (a ^^^ b) % 2 = (a + b) % 2 := by
    have h := Nat.xor_mod_two_pow (a := a) (b := b) (n := 1)
    rw [Nat.pow_one] at h
    rw [h]
    rcases Nat.mod_two_eq_zero_or_one a with ha | ha <;> rcases Nat.mod_two_eq_zero_or_one b with hb | hb <;> rw [ha, hb] <;> simp <;> omega
  rw [hm]
  rcases Nat.mod_two_eq_zero_or_one a with ha | ha <;> rcases Nat.mod_two_eq_zero_or_one b with hb | hb
  · rw [if_neg (by omega), if_neg (by omega), if_neg (by omega)]; simp
  · rw [if_pos (by omega), if_neg (by omega), if_pos (by omega)]; simp [Nat.xor_assoc]
  · rw [if_pos (by omega), if_pos (by omega), if_neg (by omega)]; simp only [Nat.xor_zero]
    rw [Nat.xor_assoc, Nat.xor_comm (b / 2), ← Nat.xor_assoc]
  · rw [if_neg (by omega), if_pos (by omega), if_pos (by omega)]
    simp only [Nat.xor_zero]
    rw [Nat.xor_assoc (a / 2), Nat.xor_comm 3988292384, Nat.xor_assoc (b / 2), Nat.xor_self, Nat.xor_zero]
theorem halves_xor (n a b : Nat) : halves n (a ^^^ b) = halves n a ^^^ halves n b := by
  induction n with
  | zero => rfl
  | succ n ih => simp only [halves, ih, half_xor]

theorem xor4 (a b c d : Nat) : (a ^^^ b) ^^^ (c ^^^ d) = (a ^^^ c) ^^^ (b ^^^ d) := by
  rw [Nat.xor_assoc, ← Nat.xor_assoc b, Nat.xor_comm b c, Nat.xor_assoc c, ← Nat.xor_assoc]
theorem stepB_xor {r s : Nat} {c d e : Int} (h : e.toNat = c.toNat ^^^ d.toNat) : stepB (r ^^^ s) e = stepB r c ^^^ stepB s d := by
  unfold stepB
  rw [h, xor4, halves_xor]

/-- x is the exclusive or of y and z, byte by byte -/
inductive Xor2 : List Int → List Int → List Int → Prop
  | nil : Xor2 [] [] []
  | cons {x y z : Int} {xs ys zs : List Int} (h : x.toNat = y.toNat ^^^ z.toNat) (t : Xor2 xs ys zs) : Xor2 (x :: xs) (y :: ys) (z :: zs)
theorem fold_xor {xs ys zs : List Int} (h : Xor2 xs ys zs) : ∀ r s, xs.foldl stepB (r ^^^ s) = ys.foldl stepB r ^^^ zs.foldl stepB s := by
  induction h with
  | nil => intro r s; rfl
  | cons h _ ih => intro r s; simp only [List.foldl_cons, stepB_xor h, ih]

theorem xor2_of {xs ys zs : List Int} (h1 : xs.length = ys.length) (h2 : xs.length = zs.length) (h : ∀ j, j < xs.length → (xs.getD j 0).toNat = (ys.getD j 0).toNat ^^^ (zs.getD j 0).toNat) : Xor2 xs ys zs := by
  induction xs generalizing ys zs with
  | nil =>
    obtain rfl : ys = [] := List.eq_nil_of_length_eq_zero (by simpa using h1.symm)
    obtain rfl : zs = [] := List.eq_nil_of_length_eq_zero (by simpa using h2.symm)
    exact .nil
  | cons x xs ih =>
    rcases ys with _ | ⟨y, ys⟩
    · simp at h1
    · rcases zs with _ | ⟨z, zs⟩
      · simp at h2
      · refine .cons (by simpa [List.getD] using h 0 (by simp)) (ih (by simpa using h1) (by simpa using h2) fun j hj => ?_)
        simpa [List.getD] using h (j + 1) (by simpa using hj)

/-- the sum of the exclusive or of three -/
theorem crc_xor3 {as bs cs xs : List Int} (ha : InB as) (hb : InB bs) (hc : InB cs) (h1 : xs.length = as.length) (h2 : xs.length = bs.length) (h3 : xs.length = cs.length)
    (h : ∀ j, j < xs.length → (xs.getD j 0).toNat = (as.getD j 0).toNat ^^^ (bs.getD j 0).toNat ^^^ (cs.getD j 0).toNat) :
    (reg xs ^^^ 4294967295) = (reg as ^^^ 4294967295) ^^^ (reg bs ^^^ 4294967295) ^^^ (reg cs ^^^ 4294967295) := by
  let ys : List Int := (List.range xs.length).map fun j => (((as.getD j 0).toNat ^^^ (bs.getD j 0).toNat : Nat) : Int)
  have hyl : ys.length = xs.length := by simp [ys]
  have hyg : ∀ j, j < xs.length → ys.getD j 0 = (((as.getD j 0).toNat ^^^ (bs.getD j 0).toNat : Nat) : Int) := fun j hj => by
    simp [ys, List.getD, hj]
  have e1 := fold_xor (xor2_of (xs := ys) (ys := as) (zs := bs) (by omega) (by omega) fun j hj => by rw [hyg j (by omega)]; rfl)
  have e2 := fold_xor (xor2_of (xs := xs) (ys := ys) (zs := cs) (by omega) (by omega) fun j hj => by rw [h j hj, hyg j hj]; rfl)
  have e3 : reg xs = reg as ^^^ reg bs ^^^ reg cs := by
    unfold reg
    rw [show (4294967295 : Nat) = (4294967295 ^^^ 4294967295) ^^^ 4294967295 by simp]
    rw [e2, e1]
    simp
  rw [e3]
  generalize reg as = A
  generalize reg bs = B
  generalize reg cs = C
  rw [xor4 A, Nat.xor_self, Nat.xor_zero, ← Nat.xor_assoc]

/-- the bytes of three lists at one place, combined -/
def mix (xa xb xc : List Int) (j : Nat) : Int := (((xa.getD j 0).toNat ^^^ (xb.getD j 0).toNat ^^^ (xc.getD j 0).toNat : Nat) : Int)
/-- the first k places combined, the others as they were -/
def mixed (xa xb xc : List Int) (k : Nat) : List Int := (List.range xa.length).map fun j => if j < k then mix xa xb xc j else xa.getD j 0
theorem mixed_length (xa xb xc : List Int) (k : Nat) : (mixed xa xb xc k).length = xa.length := by simp [mixed]
theorem mixed_zero (xa xb xc : List Int) : mixed xa xb xc 0 = xa := by
  apply List.ext_getElem (mixed_length _ _ _ _)
  intro j h1 h2
  simp [mixed, List.getD, h2]
theorem mixed_at (xa xb xc : List Int) {k : Nat} (h : k < xa.length) : ((mixed xa xb xc k).map (Value.int .u8))[k]? = some (.int .u8 (xa.getD k 0)) := by
  simp [mixed, h]
theorem mixed_set (xa xb xc : List Int) {k : Nat} (h : k < xa.length) : ((mixed xa xb xc k).map (Value.int .u8)).set k (.int .u8 (mix xa xb xc k)) = (mixed xa xb xc (k + 1)).map (Value.int .u8) := by
  apply List.ext_getElem
  · simp [mixed]
  · intro j h1 h2
    simp only [mixed, List.map_map, List.getElem_set, List.getElem_map, List.getElem_range, Function.comp_apply]
    by_cases hj : k = j
    · subst hj; simp
    · rw [if_neg hj]
      by_cases hjk : j < k
      · rw [if_pos hjk, if_pos (by omega)]
      · rw [if_neg hjk, if_neg (by omega)]
theorem xor_lt8 {a b : Nat} (ha : a < 256) (hb : b < 256) : a ^^^ b < 256 := Nat.xor_lt_two_pow (n := 8) (by omega) (by omega)
theorem xor_u8 (a b : Nat) (ha : a < 256) (hb : b < 256) : bits .xor .u8 (a : Int) (b : Int) = ((a ^^^ b : Nat) : Int) := by
  have hx : a ^^^ b < 256 := xor_lt8 ha hb
  have h1 : (BitVec.ofInt 8 (a : Int)).toNat = a := by
    rw [BitVec.ofInt_natCast, BitVec.toNat_ofNat]; exact Nat.mod_eq_of_lt (by omega)
  have h2 : (BitVec.ofInt 8 (b : Int)).toNat = b := by
    rw [BitVec.ofInt_natCast, BitVec.toNat_ofNat]; exact Nat.mod_eq_of_lt (by omega)
  show IntKind.u8.wrap ((BitVec.ofInt 8 (a : Int) ^^^ BitVec.ofInt 8 (b : Int)).toNat : Int) = _
  rw [BitVec.toNat_xor, h1, h2, IntKind.wrap_u8]
  omega
theorem xor_u8x2 {a b : Int} (ha : 0 ≤ a ∧ a ≤ 255) (hb : 0 ≤ b ∧ b ≤ 255) : bits .xor .u8 a b = ((a.toNat ^^^ b.toNat : Nat) : Int) := by
  have h1 := xor_u8 a.toNat b.toNat (by omega) (by omega)
  rwa [Int.toNat_of_nonneg ha.1, Int.toNat_of_nonneg hb.1] at h1
theorem xor_u8x3 {a b c : Int} (ha : 0 ≤ a ∧ a ≤ 255) (hb : 0 ≤ b ∧ b ≤ 255) (hc : 0 ≤ c ∧ c ≤ 255) : bits .xor .u8 (bits .xor .u8 a b) c = ((a.toNat ^^^ b.toNat ^^^ c.toNat : Nat) : Int) := by
  have h2 := xor_u8 (a.toNat ^^^ b.toNat) c.toNat (xor_lt8 (by omega) (by omega)) (by omega)
  rw [Int.toNat_of_nonneg hc.1] at h2
  rw [xor_u8x2 ha hb, h2]
theorem mixed_in {xa xb xc : List Int} (ha : InB xa) (hb : InB xb) (hc : InB xc) (k : Nat) : InB (mixed xa xb xc k) := by
  intro z hz
  obtain ⟨j, hj, rfl⟩ := List.mem_map.1 hz
  have h1 := ha.getD j
  have h2 := hb.getD j
  have h3 := hc.getD j
  have := xor_lt8 (xor_lt8 (a := (xa.getD j 0).toNat) (b := (xb.getD j 0).toNat) (by omega) (by omega)) (b := (xc.getD j 0).toNat) (by omega)
  split
  · unfold mix; omega
  · exact h1
/-- the law, on lists -/
theorem crc_linear {xa xb xc : List Int} (ha : InB xa) (hb : InB xb) (hc : InB xc) (h1 : xa.length ≤ xb.length) (h2 : xa.length ≤ xc.length) :
    (reg (mixed xa xb xc xa.length) ^^^ 4294967295) = (reg xa ^^^ 4294967295) ^^^ (reg (xb.take xa.length) ^^^ 4294967295) ^^^ (reg (xc.take xa.length) ^^^ 4294967295) := by
  refine crc_xor3 ha (hb.take _) (hc.take _) (mixed_length _ _ _ _) ?_ ?_ fun j hj => ?_
  · rw [mixed_length, List.length_take]; omega
  · rw [mixed_length, List.length_take]; omega
  · rw [mixed_length] at hj
    have e1 : (xb.take xa.length).getD j 0 = xb.getD j 0 := by simp [List.getD, hj]
    have e2 : (xc.take xa.length).getD j 0 = xc.getD j 0 := by simp [List.getD, hj]
    rw [e1, e2]
    have : (mixed xa xb xc xa.length).getD j 0 = mix xa xb xc j := by simp [mixed, List.getD, hj]
    rw [this]
    unfold mix; omega

theorem xor_i64 (a b : Nat) (ha : a < 4294967296) (hb : b < 4294967296) : bits .xor .i64 (a : Int) (b : Int) = ((a ^^^ b : Nat) : Int) := by
  have hx := xor_lt32 ha hb
  have h1 : (BitVec.ofInt 64 (a : Int)).toNat = a := by
    rw [BitVec.ofInt_natCast, BitVec.toNat_ofNat]; exact Nat.mod_eq_of_lt (by omega)
  have h2 : (BitVec.ofInt 64 (b : Int)).toNat = b := by
    rw [BitVec.ofInt_natCast, BitVec.toNat_ofNat]; exact Nat.mod_eq_of_lt (by omega)
  show IntKind.i64.wrap ((BitVec.ofInt 64 (a : Int) ^^^ BitVec.ofInt 64 (b : Int)).toNat : Int) = _
  rw [BitVec.toNat_xor, h1, h2, IntKind.wrap_i64]
  omega
theorem xor_i64x2 {a b c : Nat} (ha : a < 4294967296) (hb : b < 4294967296) (hc : c < 4294967296) : bits .xor .i64 (bits .xor .i64 (a : Int) (b : Int)) (c : Int) = ((a ^^^ b ^^^ c : Nat) : Int) := by
  rw [xor_i64 a b ha hb, xor_i64 _ c (xor_lt32 ha hb) hc]
end Go.Proofs.Ytlpphnhamfgmiaa
