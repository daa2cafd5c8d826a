/- Plain mathematics of the codec layer: CRC-32 as a fold over bytes. Imports nothing of the program. -/
import Derived.Laws.BitsLemmas
import Derived.Laws.Bits64b
namespace Go.Proofs.Ytlpphnhamfgmiaa
open Go

/-- one halving of the register -/
def half (r : Nat) : Nat := if r % 2 = 1 then (r / 2) ^^^ 3988292384 else r / 2
def halves : Nat → Nat → Nat
  | 0, r => r
  | n + 1, r => half (halves n r)
def stepB (r : Nat) (c : Int) : Nat := halves 8 (r ^^^ c.toNat)
def reg (l : List Int) : Nat := l.foldl stepB 4294967295
def crc (l : List Int) : Int := ((reg l ^^^ 4294967295 : Nat) : Int)

def InB (l : List Int) : Prop := ∀ z ∈ l, 0 ≤ z ∧ z ≤ 255

theorem InB.getD {l : List Int} (h : InB l) (k : Nat) : 0 ≤ l.getD k 0 ∧ l.getD k 0 ≤ 255 := by
  by_cases hk : k < l.length
  · have := h (l[k]) (List.getElem_mem hk)
    simpa [List.getD, hk] using this
  · simp [List.getD, Nat.le_of_not_lt hk]

theorem half_lt {r : Nat} (h : r < 4294967296) : half r < 4294967296 := by
  unfold half
  split
  · exact Nat.xor_lt_two_pow (n := 32) (by omega) (by omega)
  · omega
theorem halves_lt {r : Nat} (n : Nat) (h : r < 4294967296) : halves n r < 4294967296 := by
  induction n with
  | zero => exact h
  | succ n ih => exact half_lt ih
theorem xor_lt32 {a b : Nat} (ha : a < 4294967296) (hb : b < 4294967296) : a ^^^ b < 4294967296 := Nat.xor_lt_two_pow (n := 32) (by omega) (by omega)
theorem stepB_lt {r : Nat} {c : Int} (h : r < 4294967296) (h1 : c ≤ 255) : stepB r c < 4294967296 :=
  halves_lt 8 (xor_lt32 h (by omega))
theorem fold_lt : ∀ (l : List Int) (r : Nat), InB l → r < 4294967296 → l.foldl stepB r < 4294967296
  | [], r, _, h => h
  | c :: l, r, hl, h => by
    simp only [List.foldl_cons]
    exact fold_lt l _ (fun z hz => hl z (List.mem_cons_of_mem _ hz)) (stepB_lt h (hl c (List.mem_cons_self)).2)
theorem reg_lt {l : List Int} (h : InB l) : reg l < 4294967296 := fold_lt l _ h (by decide)
theorem InB.take {l : List Int} (h : InB l) (k : Nat) : InB (l.take k) := fun z hz => h z (List.mem_of_mem_take hz)

theorem take_succ_getD {l : List Int} {k : Nat} (h : k < l.length) : l.take (k + 1) = l.take k ++ [l.getD k 0] := by
  rw [List.take_succ_eq_append_getElem h]; simp [List.getD, h]
theorem reg_snoc {l : List Int} {k : Nat} (h : k < l.length) : reg (l.take (k + 1)) = stepB (reg (l.take k)) (l.getD k 0) := by
  rw [take_succ_getD h]; simp [reg, List.foldl_append]

theorem xor_u32 (a b : Nat) (ha : a < 4294967296) (hb : b < 4294967296) : bits .xor .u32 (a : Int) (b : Int) = ((a ^^^ b : Nat) : Int) := by
  have hx : a ^^^ b < 4294967296 := xor_lt32 ha hb
  have h1 : (BitVec.ofInt 32 (a : Int)).toNat = a := by
    rw [BitVec.ofInt_natCast, BitVec.toNat_ofNat]; exact Nat.mod_eq_of_lt (by omega)
  have h2 : (BitVec.ofInt 32 (b : Int)).toNat = b := by
    rw [BitVec.ofInt_natCast, BitVec.toNat_ofNat]; exact Nat.mod_eq_of_lt (by omega)
  show IntKind.u32.wrap ((BitVec.ofInt 32 (a : Int) ^^^ BitVec.ofInt 32 (b : Int)).toNat : Int) = _
  rw [BitVec.toNat_xor, h1, h2, IntKind.wrap_u32]
  omega
theorem xor_u32_int (a : Nat) (c : Int) (ha : a < 4294967296) (h0 : 0 ≤ c) (h1 : c < 4294967296) : bits .xor .u32 (a : Int) c = ((a ^^^ c.toNat : Nat) : Int) := by
  have := xor_u32 a c.toNat ha (by omega)
  rwa [Int.toNat_of_nonneg h0] at this
theorem and1_u32 (a : Nat) (ha : a < 4294967296) : bits .and .u32 (a : Int) 1 = ((a % 2 : Nat) : Int) := by
  have h1 : (BitVec.ofInt 32 (a : Int)).toNat = a := by
    rw [BitVec.ofInt_natCast, BitVec.toNat_ofNat]; exact Nat.mod_eq_of_lt (by omega)
  show IntKind.u32.wrap ((BitVec.ofInt 32 (a : Int) &&& BitVec.ofInt 32 1).toNat : Int) = _
  rw [BitVec.toNat_and, h1, IntKind.wrap_u32]
  have : (BitVec.ofInt 32 1).toNat = 1 := by decide
  rw [this, Nat.and_one_is_mod]
  omega
theorem poly_u32 (s : Nat) (h : s < 4294967296) : bits .xor .u32 ((s / 2 : Nat) : Int) 3988292384 = (((s / 2) ^^^ 3988292384 : Nat) : Int) :=
  xor_u32 (s / 2) 3988292384 (by omega) (by omega)
theorem flip_u32 (s : Nat) (h : s < 4294967296) : bits .xor .u32 (s : Int) 4294967295 = ((s ^^^ 4294967295 : Nat) : Int) :=
  xor_u32 s 4294967295 (by omega) (by omega)
theorem flip_u32' (s : Nat) (h : s < 4294967296) : bits .xor .u32 4294967295 (s : Int) = ((s ^^^ 4294967295 : Nat) : Int) := by
  rw [Nat.xor_comm]; exact xor_u32 4294967295 s (by omega) (by omega)
theorem flip_lt {s : Nat} (h : s < 4294967296) : s ^^^ 4294967295 < 4294967296 := xor_lt32 h (by omega)
theorem flip_zero : bits .xor .u32 4294967295 4294967295 = 0 := by
  have := flip_u32 4294967295 (by omega)
  rw [Nat.xor_self] at this
  exact this
end Go.Proofs.Ytlpphnhamfgmiaa
