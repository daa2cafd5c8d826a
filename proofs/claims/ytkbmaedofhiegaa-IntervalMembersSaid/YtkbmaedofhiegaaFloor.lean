import Derived.Test.YtkbmaedofhiegaaBase
import Derived.BigQuiet
import Derived.Deep.QuietTactic
namespace Go.Proofs.Ytkbmaedofhiegaa
open Go.ChangeShapes Go.WideShapes Go.ChangeAt Go.RowKit
set_option maxRecDepth 100000

theorem ret2 {k j : IntKind} {a b c d : Int} (h1 : a = b) (h2 : c = d) : Ending.returned (.tuple #[.int k a, .int j c]) = .returned (.tuple #[.int k b, .int j d]) := by rw [h1, h2]
theorem below_drewN {B : Nat} {a w : World} (h : Below B a w) (n : Nat) : Below B a (w.drewN n) := ⟨h.os, h.tape, h.output, h.size, h.block⟩

theorem abs_any (n : Int) (w : World) (h0 : -1000000000000000 ≤ n) (h1 : n ≤ 1000000000000000) :
    Calls Try.prog 30 #[.int .i64 n] w fun e w' => e = .returned (.int .u64 (n.natAbs : Int)) ∧ w = w' := by
  by_cases h : n < 0
  · have e : (n.natAbs : Int) = -n := by omega
    rw [e]
    clear e
    go_enter Try.func30, Try.ntmps30
    go_wp2
    go_ret
    exact ⟨rfl, rfl⟩
  · have e : (n.natAbs : Int) = n := by omega
    rw [e]
    clear e
    go_enter Try.func30, Try.ntmps30
    go_wp2
    go_ret
    exact ⟨rfl, rfl⟩

theorem bounded_any (n : Int) (w : World) (h : inB n = true) :
    Calls Try.prog 32 #[.int .i64 n] w fun e w' => e = .returned (.tuple #[.int .i64 n, .bool true]) ∧ w = w' := by
  have c := in_any n w
  rw [h] at c
  have C := Lib.hid c
  clear c h
  go_enter Try.func32, Try.ntmps32
  go_wp2_with fail
  refine C.out.mono ?_
  rintro e W ⟨rfl, rfl⟩
  go_wp2
  go_ret2
  exact ⟨rfl, rfl⟩

theorem div64_low (lo y : Nat) (w : World) (hlo : lo < 18446744073709551616) (hy0 : 0 < y) (hy : y ≤ 1000000000000000) :
    Calls Try.prog 31 #[.int .u64 0, .int .u64 lo, .int .u64 y] w fun e w' => e = .returned (.tuple #[.int .u64 ((lo / y : Nat) : Int), .int .u64 ((lo % y : Nat) : Int)]) ∧ Below w.heap.size w w' := by
  have hne : ((y : Int) == 0) = false := by simp; omega
  have hpos : (0 : Int) < (y : Int) := by omega
  have hle : ¬ (y : Int) ≤ 0 := by omega
  have hq : IntKind.u64.wrap ((lo : Int) / (y : Int)) = ((lo / y : Nat) : Int) := by
    have h1 : lo / y ≤ lo := Nat.div_le_self _ _
    have e : (lo : Int) / (y : Int) = ((lo / y : Nat) : Int) := (Int.natCast_ediv lo y).symm
    rw [e, IntKind.wrap_u64]
    generalize lo / y = q at *
    omega
  have hr : ((lo : Int) % (y : Int)) = ((lo % y : Nat) : Int) := by rw [Int.natCast_emod]
  have Hlo := Lib.hid hlo
  have Hr := Lib.hid hr
  clear hlo hr
  go_enter Try.func31, Try.ntmps31
  go_wp2
  go_quiet (fail)
  go_wp2
  go_ret2
  exact ⟨ret2 rfl Hr.out, below_drewN (Below.refl _ _) _⟩

/-- the quotient of a product by a million, rounded down -/
def mill (p : Int) : Int := p / 1000000
theorem natAbs_mul_pos {a b : Int} (hb : 0 ≤ b) : ((a.natAbs * b.natAbs : Nat) : Int) = if 0 ≤ a then a * b else -(a * b) := by
  rw [Int.natCast_mul]
  by_cases h : 0 ≤ a
  · rw [if_pos h, show ((a.natAbs : Nat) : Int) = a by omega, show ((b.natAbs : Nat) : Int) = b by omega]
  · rw [if_neg h, show ((a.natAbs : Nat) : Int) = -a by omega, show ((b.natAbs : Nat) : Int) = b by omega, Int.neg_mul]

theorem floor_million (a b : Int) (w : World) (ha : -1000000000000 ≤ a ∧ a ≤ 1000000000000) (hb : 0 ≤ b ∧ b ≤ 1010000) :
    Calls Try.prog 27 #[.int .i64 a, .int .i64 b, .int .i64 1000000] w fun e w' => e = .returned (.tuple #[.int .i64 (mill (a * b)), .bool true]) ∧ Below w.heap.size w w' := by
  have c1 := fun W => in_any a W
  have c2 := fun W => in_any b W
  rw [inB_true.2 ⟨by omega, by omega⟩] at c1 c2
  have C1 := Lib.hid c1
  have C2 := Lib.hid c2
  have C3 := Lib.hid (fun W => abs_any a W (by omega) (by omega))
  have C4 := Lib.hid (fun W => abs_any b W (by omega) (by omega))
  have hp := natAbs_mul_pos (a := a) (b := b) hb.1
  have hP : a.natAbs * b.natAbs ≤ 1000000000000 * 1010000 := Nat.mul_le_mul (by omega) (by omega)
  have hd1 : a.natAbs * b.natAbs / 18446744073709551616 = 0 := Nat.div_eq_of_lt (by omega)
  have hd2 : a.natAbs * b.natAbs % 18446744073709551616 = a.natAbs * b.natAbs := Nat.mod_eq_of_lt (by omega)
  have c5 := fun W => Try.bits_Mul64 a.natAbs b.natAbs (by omega) (by omega) W
  rw [hd1, hd2] at c5
  generalize a.natAbs * b.natAbs = P at *
  have c6 := fun W => div64_low P 1000000 W (by omega) (by omega) (by omega)
  have hq : P / 1000000 ≤ 1010000000000 := by omega
  have hr : P % 1000000 < 1000000 := by omega
  have hPd : P = P / 1000000 * 1000000 + P % 1000000 := by omega
  generalize hQ : P / 1000000 = Q at *
  generalize hR : P % 1000000 = R at *
  have hmill : mill (a * b) = if 0 ≤ a then (Q : Int) else if 0 < R then -(Q : Int) - 1 else -(Q : Int) := by
    unfold mill
    split at hp <;> split <;> first | omega | (split <;> omega)
  have c7 := fun W => bounded_any (mill (a * b)) W (inB_true.2 (by rw [hmill]; split <;> first | omega | (split <;> omega)))
  have C5 := Lib.hid c5
  have C6 := Lib.hid c6
  have Hm := Lib.hid hmill
  have ha1 := ha.1
  have ha2 := ha.2
  have hb1 := hb.1
  have hb2 := hb.2
  have C7 := Lib.hid c7
  clear c1 c2 c5 c6 c7 hp hP hd1 hd2 hQ hR hPd hmill ha hb
  by_cases hs : 0 ≤ a
  · have hm : mill (a * b) = (Q : Int) := by rw [Hm.out, if_pos hs]
    rw [hm] at C7 ⊢
    clear hm
    have hda : decide (a < 0) = false := by simp; omega
    have hdb : decide (b < 0) = false := by simp; omega
    go_enter Try.func27, Try.ntmps27
    go_wp2_with fail
    refine (C1.out _).mono ?_
    rintro e W ⟨rfl, rfl⟩
    go_wp2_with fail
    refine (C2.out _).mono ?_
    rintro e W ⟨rfl, rfl⟩
    go_wp2_with fail
    refine (C3.out _).mono ?_
    rintro e W ⟨rfl, rfl⟩
    go_wp2_with fail
    refine (C4.out _).mono ?_
    rintro e W ⟨rfl, rfl⟩
    go_wp2_with fail
    refine (C5.out _).mono ?_
    rintro e W ⟨rfl, rfl⟩
    go_wp2_with fail
    refine (C6.out _).mono ?_
    rintro e W ⟨rfl, hbel⟩
    go_wp2_with fail
    refine (C7.out _).mono ?_
    rintro e W' ⟨rfl, rfl⟩
    go_wp2
    go_ret2
    exact ⟨rfl, hbel⟩
  · by_cases hR0 : 0 < R
    · have hm : mill (a * b) = -(Q : Int) - 1 := by rw [Hm.out, if_neg hs, if_pos hR0]
      rw [hm] at C7 ⊢
      clear hm
      have hda : decide (a < 0) = true := by simp; omega
      have hdb : decide (b < 0) = false := by simp; omega
      have hR1 : (0 : Int) < (R : Int) := by omega
      go_enter Try.func27, Try.ntmps27
      go_wp2_with fail
      refine (C1.out _).mono ?_
      rintro e W ⟨rfl, rfl⟩
      go_wp2_with fail
      refine (C2.out _).mono ?_
      rintro e W ⟨rfl, rfl⟩
      go_wp2_with fail
      refine (C3.out _).mono ?_
      rintro e W ⟨rfl, rfl⟩
      go_wp2_with fail
      refine (C4.out _).mono ?_
      rintro e W ⟨rfl, rfl⟩
      go_wp2_with fail
      refine (C5.out _).mono ?_
      rintro e W ⟨rfl, rfl⟩
      go_wp2_with fail
      refine (C6.out _).mono ?_
      rintro e W ⟨rfl, hbel⟩
      go_wp2_with fail
      refine (C7.out _).mono ?_
      rintro e W' ⟨rfl, rfl⟩
      go_wp2
      go_ret2
      exact ⟨rfl, hbel⟩
    · have hm : mill (a * b) = -(Q : Int) := by rw [Hm.out, if_neg hs, if_neg hR0]
      rw [hm] at C7 ⊢
      clear hm
      have hda : decide (a < 0) = true := by simp; omega
      have hdb : decide (b < 0) = false := by simp; omega
      have hR1 : ¬ (0 : Int) < (R : Int) := by omega
      go_enter Try.func27, Try.ntmps27
      go_wp2_with fail
      refine (C1.out _).mono ?_
      rintro e W ⟨rfl, rfl⟩
      go_wp2_with fail
      refine (C2.out _).mono ?_
      rintro e W ⟨rfl, rfl⟩
      go_wp2_with fail
      refine (C3.out _).mono ?_
      rintro e W ⟨rfl, rfl⟩
      go_wp2_with fail
      refine (C4.out _).mono ?_
      rintro e W ⟨rfl, rfl⟩
      go_wp2_with fail
      refine (C5.out _).mono ?_
      rintro e W ⟨rfl, rfl⟩
      go_wp2_with fail
      refine (C6.out _).mono ?_
      rintro e W ⟨rfl, hbel⟩
      go_wp2_with fail
      refine (C7.out _).mono ?_
      rintro e W' ⟨rfl, rfl⟩
      go_wp2
      go_ret2
      exact ⟨rfl, hbel⟩

theorem ceil_million (a b : Int) (w : World) (ha : -1000000000000 ≤ a ∧ a ≤ 1000000000000) (hb : 0 ≤ b ∧ b ≤ 1010000) :
    Calls Try.prog 28 #[.int .i64 a, .int .i64 b, .int .i64 1000000] w fun e w' => e = .returned (.tuple #[.int .i64 (-mill (-a * b)), .bool true]) ∧ Below w.heap.size w w' := by
  have c1 := fun W => in_any a W
  rw [inB_true.2 ⟨by omega, by omega⟩] at c1
  have C1 := Lib.hid c1
  have C2 := Lib.hid (fun W => floor_million (-a) b W (by omega) hb)
  have hm : -1010000000000000 ≤ mill (-a * b) ∧ mill (-a * b) ≤ 1010000000000000 := by
    have h1 : (-a).natAbs * b.natAbs ≤ 1000000000000 * 1010000 := Nat.mul_le_mul (by omega) (by omega)
    have h2 := natAbs_mul_pos (a := -a) (b := b) hb.1
    unfold mill
    split at h2 <;> omega
  obtain ⟨m1, m2⟩ := hm
  obtain ⟨a1, a2⟩ := ha
  generalize mill (-a * b) = m at *
  clear c1 hb
  go_enter Try.func28, Try.ntmps28
  go_wp2_with fail
  refine (C1.out _).mono ?_
  rintro e W ⟨rfl, rfl⟩
  go_wp2_with fail
  refine (C2.out _).mono ?_
  rintro e W ⟨rfl, hbel⟩
  go_wp2
  go_ret2
  exact ⟨rfl, hbel⟩
end Go.Proofs.Ytkbmaedofhiegaa
