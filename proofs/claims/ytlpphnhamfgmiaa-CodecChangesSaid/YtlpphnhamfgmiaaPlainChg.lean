/- Plain mathematics: changing bytes within four consecutive ones changes the register. Imports nothing of the program. -/
import Derived.Test.YtlpphnhamfgmiaaPlainLin
namespace Go.Proofs.Ytlpphnhamfgmiaa
open Go

theorem xor_zero_eq {a b : Nat} (h : a ^^^ b = 0) : a = b := by
  have h1 : a ^^^ b ^^^ b = 0 ^^^ b := by rw [h]
  rwa [Nat.xor_assoc, Nat.xor_self, Nat.xor_zero, Nat.zero_xor] at h1
theorem xor_cancel {a b c : Nat} (h : a ^^^ c = b ^^^ c) : a = b := by
  have h1 : a ^^^ c ^^^ c = b ^^^ c ^^^ c := by rw [h]
  rwa [Nat.xor_assoc, Nat.xor_self, Nat.xor_zero, Nat.xor_assoc, Nat.xor_self, Nat.xor_zero] at h1
theorem half_zero {r : Nat} (h : r < 4294967296) (h0 : half r = 0) : r = 0 := by
  unfold half at h0
  by_cases h1 : r % 2 = 1
  · rw [if_pos h1] at h0
    have : r / 2 = 3988292384 := xor_zero_eq h0
    omega
  · rw [if_neg h1] at h0
    omega
theorem halves_zero {r : Nat} (n : Nat) (h : r < 4294967296) (h0 : halves n r = 0) : r = 0 := by
  induction n with
  | zero => exact h0
  | succ n ih => exact ih (half_zero (halves_lt n h) h0)
theorem halves_of_zero (n : Nat) : halves n 0 = 0 := by
  induction n with
  | zero => rfl
  | succ n ih => simp [halves, ih, half]
theorem halves_add (m n r : Nat) : halves (m + n) r = halves m (halves n r) := by
  induction m with
  | zero => simp [halves]
  | succ m ih => rw [Nat.succ_add]; simp only [halves, ih]
theorem halves_shift (n x : Nat) : halves n (2 ^ n * x) = x := by
  induction n generalizing x with
  | zero => simp [halves]
  | succ n ih =>
    rw [halves, Nat.pow_succ, Nat.mul_assoc, ih (2 * x)]
    unfold half
    rw [if_neg (by omega)]; omega

/-- the bytes of a list as one number, the first one lowest -/
def pack : List Int → Nat
  | [] => 0
  | c :: l => c.toNat + 256 * pack l
theorem pack_lt : ∀ (l : List Int), InB l → pack l < 256 ^ l.length
  | [], _ => by simp [pack]
  | c :: l, h => by
    have h1 := h c (List.mem_cons_self)
    have h2 := pack_lt l (fun z hz => h z (List.mem_cons_of_mem _ hz))
    simp only [pack, List.length_cons, Nat.pow_succ]
    omega
theorem pack_zero : ∀ (l : List Int), InB l → pack l = 0 → ∀ z ∈ l, z = 0
  | [], _, _ => fun z hz => by cases hz
  | c :: l, h, h0 => by
    have h1 := h c (List.mem_cons_self)
    simp only [pack] at h0
    intro z hz
    rcases List.mem_cons.1 hz with rfl | hz
    · omega
    · exact pack_zero l (fun z hz => h z (List.mem_cons_of_mem _ hz)) (by omega) z hz
theorem pack_of_zero : ∀ (l : List Int), (∀ z ∈ l, z = 0) → pack l = 0
  | [], _ => rfl
  | c :: l, h => by
    have h1 := h c (List.mem_cons_self)
    have h2 := pack_of_zero l (fun z hz => h z (List.mem_cons_of_mem _ hz))
    simp [pack, h1, h2]

theorem fold_pack : ∀ (l : List Int) (r : Nat), InB l → l.length ≤ 4 → l.foldl stepB r = halves (8 * l.length) (r ^^^ pack l)
  | [], r, _, _ => by simp [pack, halves]
  | c :: l, r, h, hl => by
    have hc := h c (List.mem_cons_self)
    have hin : InB l := fun z hz => h z (List.mem_cons_of_mem _ hz)
    have hp := pack_lt l hin
    simp only [List.length_cons] at hl
    rw [List.foldl_cons, fold_pack l _ hin (by omega)]
    have e1 : stepB r c ^^^ pack l = halves 8 (r ^^^ pack (c :: l)) := by
      unfold stepB
      have e2 : c.toNat ^^^ 256 * pack l = pack (c :: l) := by
        simp only [pack]
        have := Nat.two_pow_add_eq_or_of_lt (i := 8) (b := c.toNat) (by omega) (pack l)
        rw [show (2 : Nat) ^ 8 = 256 by decide] at this
        rw [Nat.add_comm c.toNat, this, Nat.xor_comm]
        apply Nat.eq_of_testBit_eq
        intro i
        rw [Nat.testBit_xor, Nat.testBit_or]
        by_cases hi : i < 8
        · have : (256 * pack l).testBit i = false := by
            rw [show (256 : Nat) = 2 ^ 8 by decide, Nat.testBit_two_pow_mul]
            simp; omega
          rw [this]; simp
        · have : c.toNat.testBit i = false := by
            apply Nat.testBit_lt_two_pow
            exact Nat.lt_of_lt_of_le (show c.toNat < 2 ^ 8 by omega) (Nat.pow_le_pow_right (by decide) (by omega))
          rw [this]; simp
      have e3 := halves_shift 8 (pack l)
      rw [show (2 : Nat) ^ 8 = 256 by decide] at e3
      rw [← e2, ← Nat.xor_assoc, halves_xor 8 (r ^^^ c.toNat), e3]
    rw [e1, ← halves_add, List.length_cons, show 8 * (l.length + 1) = 8 * l.length + 8 by omega]

theorem fold_zeros (m r : Nat) : (List.replicate m (0 : Int)).foldl stepB r = halves (8 * m) r := by
  induction m generalizing r with
  | zero => rfl
  | succ m ih =>
    rw [List.replicate_succ, List.foldl_cons, ih]
    have : stepB r 0 = halves 8 r := by simp [stepB]
    rw [this, ← halves_add]
    congr 1

/-- a list of differences with at most four consecutive bytes -/
theorem fold_diff {p q : Nat} {l : List Int} (h : InB l) (hl : l.length ≤ 4) :
    (List.replicate p (0 : Int) ++ l ++ List.replicate q 0).foldl stepB 0 = 0 ↔ ∀ z ∈ l, z = 0 := by
  rw [List.foldl_append, List.foldl_append, fold_zeros, fold_zeros, halves_of_zero, fold_pack l 0 h hl, Nat.zero_xor]
  have hp : pack l < 4294967296 := Nat.lt_of_lt_of_le (pack_lt l h) (Nat.le_trans (Nat.pow_le_pow_right (by decide) hl) (by decide))
  constructor
  · intro h0
    exact pack_zero l h (halves_zero _ hp (halves_zero _ (halves_lt _ hp) h0))
  · intro h0
    rw [pack_of_zero l h0, halves_of_zero, halves_of_zero]

/-- the list with the first k of four bytes laid over from place p on -/
def patched (xs by4 : List Int) (p k : Nat) : List Int := (List.range xs.length).map fun j => if p ≤ j ∧ j < p + k then (((xs.getD j 0).toNat ^^^ (by4.getD (j - p) 0).toNat : Nat) : Int) else xs.getD j 0
theorem patched_length (xs by4 : List Int) (p k : Nat) : (patched xs by4 p k).length = xs.length := by simp [patched]
theorem patched_zero (xs by4 : List Int) (p : Nat) : patched xs by4 p 0 = xs := by
  apply List.ext_getElem (patched_length _ _ _ _)
  intro j h1 h2
  simp only [patched, List.getElem_map, List.getElem_range]
  rw [if_neg (by omega)]
  simp [List.getD, h2]
theorem patched_at (xs by4 : List Int) {p k : Nat} (h : p + k < xs.length) : ((patched xs by4 p k).map (Value.int .u8))[p + k]? = some (.int .u8 (xs.getD (p + k) 0)) := by
  simp [patched, h]
theorem patched_set (xs by4 : List Int) {p k : Nat} (h : p + k < xs.length) : ((patched xs by4 p k).map (Value.int .u8)).set (p + k) (.int .u8 (((xs.getD (p + k) 0).toNat ^^^ (by4.getD k 0).toNat : Nat) : Int)) = (patched xs by4 p (k + 1)).map (Value.int .u8) := by
  apply List.ext_getElem
  · simp [patched]
  · intro j h1 h2
    simp only [patched, List.map_map, List.getElem_set, List.getElem_map, List.getElem_range, Function.comp_apply]
    by_cases hj : p + k = j
    · subst hj
      rw [if_pos rfl, if_pos (by omega), show p + k - p = k by omega]
    · rw [if_neg hj]
      by_cases hjk : p ≤ j ∧ j < p + k
      · rw [if_pos hjk, if_pos (by omega)]
      · rw [if_neg hjk, if_neg (by omega)]
theorem patched_in {xs by4 : List Int} (h : InB xs) (hb : InB by4) (p k : Nat) : InB (patched xs by4 p k) := by
  intro z hz
  obtain ⟨j, hj, rfl⟩ := List.mem_map.1 hz
  have h1 := h.getD j
  have h2 := hb.getD (j - p)
  have := xor_lt8 (a := (xs.getD j 0).toNat) (b := (by4.getD (j - p) 0).toNat) (by omega) (by omega)
  split
  · omega
  · exact h1

/-- the sums are equal exactly if the bytes that were laid over are 0 -/
theorem crc_patched {xs by4 : List Int} (h : InB xs) (hb : InB by4) (h4 : by4.length = 4) {p k : Nat} (hp : p + k ≤ xs.length) (hk : k ≤ 4) :
    (reg xs ^^^ 4294967295) = (reg (patched xs by4 p k) ^^^ 4294967295) ↔ ∀ z ∈ by4.take k, z = 0 := by
  let d : List Int := List.replicate p (0 : Int) ++ by4.take k ++ List.replicate (xs.length - p - k) 0
  have hdl : d.length = xs.length := by simp [d]; omega
  have hdg : ∀ j, j < xs.length → (d.getD j 0).toNat = if p ≤ j ∧ j < p + k then (by4.getD (j - p) 0).toNat else 0 := by
    intro j hj
    by_cases h1 : p ≤ j ∧ j < p + k
    · rw [if_pos h1]
      simp only [d, List.getD, List.append_assoc]
      rw [List.getElem?_append_right (by simp; omega), List.getElem?_append_left (by simp; omega)]
      simp only [List.length_replicate, List.getElem?_take]
      rw [if_pos (by omega)]
    · rw [if_neg h1]
      simp only [d, List.getD]
      by_cases h2 : j < p
      · rw [List.getElem?_append_left (by simp; omega), List.getElem?_append_left (by simp; omega)]
        simp [List.getElem?_replicate, h2]
      · rw [List.getElem?_append_right (by simp; omega)]
        simp [List.getElem?_replicate]
        split <;> simp
  have hx := fold_xor (xor2_of (xs := patched xs by4 p k) (ys := xs) (zs := d) (patched_length _ _ _ _) (by rw [patched_length, hdl]) fun j hj => by
    rw [patched_length] at hj
    rw [hdg j hj]
    have e : (patched xs by4 p k).getD j 0 = if p ≤ j ∧ j < p + k then (((xs.getD j 0).toNat ^^^ (by4.getD (j - p) 0).toNat : Nat) : Int) else xs.getD j 0 := by
      simp [patched, List.getD, hj]
    rw [e]
    split
    · simp
    · simp) 4294967295 0
  rw [Nat.xor_zero] at hx
  have hreg : reg (patched xs by4 p k) = reg xs ^^^ d.foldl stepB 0 := hx
  rw [hreg]
  have hfd := fold_diff (p := p) (q := xs.length - p - k) (hb.take k) (by simp; omega)
  constructor
  · intro he
    apply hfd.1
    have h1 : reg xs = reg xs ^^^ d.foldl stepB 0 := xor_cancel he
    have h2 : reg xs ^^^ (reg xs ^^^ d.foldl stepB 0) = 0 := by rw [← h1, Nat.xor_self]
    rw [← Nat.xor_assoc, Nat.xor_self, Nat.zero_xor] at h2
    exact h2
  · intro h0
    have := hfd.2 h0
    show _ = (reg xs ^^^ d.foldl stepB 0) ^^^ _
    rw [show d.foldl stepB 0 = 0 from this, Nat.xor_zero]

/-- whether one of the first k bytes is not 0 -/
def chg (by4 : List Int) (k : Nat) : Bool := (by4.take k).any fun z => z != 0
theorem chg_succ {by4 : List Int} {k : Nat} (h : k < by4.length) : chg by4 (k + 1) = (chg by4 k || (by4.getD k 0 != 0)) := by
  unfold chg
  rw [take_succ_getD h, List.any_append]
  simp
theorem chg_iff {by4 : List Int} {k : Nat} : chg by4 k = false ↔ ∀ z ∈ by4.take k, z = 0 := by
  unfold chg
  rw [List.any_eq_false]
  simp
end Go.Proofs.Ytlpphnhamfgmiaa
