import Derived.Test.YtlpphnhamfgmiaaRows
import Derived.Test.YtlpphnhamfgmiaaPlain
import Derived.WalkKit
import Derived.ProofKit
import Derived.OpenShut
import Derived.Below
import Derived.Lib.Hide
namespace Go.Proofs.Ytlpphnhamfgmiaa
open Go.ChangeShapes Go.WideShapes Go.ChangeAt Go.RowKit

/-- a byte slice that reads as zs -/
def BRow (w : World) (a : Option Addr) (zs : List Int) : Prop :=
  zs = [] ∨ ∃ b off, a = some ⟨b, off, none⟩ ∧ ∀ j, j < zs.length → w.cell? ⟨b, off + j, none⟩ = some (.int .u8 (zs.getD j 0))

theorem ret_int {k : IntKind} {a b : Int} (h : a = b) : Ending.returned (.int k a) = .returned (.int k b) := by rw [h]
theorem wrap64_small (n : Int) (h0 : -9223372036854775808 ≤ n) (h1 : n ≤ 9223372036854775807) : wrap64 n = n := by
  unfold wrap64; omega

set_option maxHeartbeats 400000 in
theorem sum_any (b off cap : Nat) (zs : List Int) (w : World) (hm : zs.length ≤ 9223372036854775807) (hin : InB zs)
    (hc : ∀ j, j < zs.length → w.cell? ⟨b, off + j, none⟩ = some (.int .u8 (zs.getD j 0))) :
    Calls Try.prog 20 #[.slice (some ⟨b, off, none⟩) zs.length cap] w fun e w' => e = .returned (.int .i64 (crc zs)) ∧ w = w' := by
  go_enter Try.func20, Try.ntmps20
  go_wp2
  go_loop [3, 9] (fun r i => ∃ (k : Nat) (R : Nat), k ≤ zs.length ∧ R < 4294967296 ∧ i = .int .i64 k ∧ r = .int .u32 R ∧ R = reg (zs.take k)) (fun _ i => zs.length - (intOf i).toNat)
  case atStart => exact ⟨0, 4294967295, by omega, by omega, rfl, rfl, by simp [reg]⟩
  case round =>
    obtain ⟨k, R, hk, hR, rfl, rfl, hreg⟩ := hrel
    have hcell : k < zs.length → w.cell? ⟨b, off + k, none⟩ = some (.int .u8 (zs.getD k 0)) := fun h => hc k (by omega)
    have hrk := hin.getD k
    have Hreg := Lib.hid hreg
    clear hreg
    by_cases hlt : k < zs.length
    · have hcell' := hcell hlt
      generalize hz : zs.getD k 0 = z at hcell' hrk
      have Hz := Lib.hid hz
      clear hz hcell hc
      have hx := xor_u32_int R z hR hrk.1 (by omega)
      have hRx : R ^^^ z.toNat < 4294967296 := xor_lt32 hR (by omega)
      generalize hQ : R ^^^ z.toNat = Q at hx hRx
      have HQ := Lib.hid hQ
      clear hQ
      go_wp2
      go_loop [3, 17] (fun r i => ∃ (j : Nat) (S : Nat), j ≤ 8 ∧ S < 4294967296 ∧ i = .int .i64 j ∧ r = .int .u32 S ∧ S = halves j Q) (fun _ i => 8 - (intOf i).toNat)
      case atStart => exact ⟨0, Q, by omega, by omega, rfl, rfl, rfl⟩
      case round =>
        obtain ⟨j, S, hj, hS, rfl, rfl, hSj⟩ := hrel
        have HS := Lib.hid hSj
        clear hSj
        have ha := and1_u32 S hS
        by_cases hj8 : j < 8
        · have hxx := poly_u32 S hS
          have hh := half_lt hS
          go_wp2
          · have ht : ((S : Int) % 2 == 1) = true := by assumption
            have ht' : S % 2 = 1 := by have := beq_iff_eq.1 ht; omega
            have hhe : half S = (S / 2) ^^^ 3988292384 := by unfold half; rw [if_pos ht']
            refine ⟨⟨j + 1, half S, by omega, hh, by go_num, ?_, by rw [HS.out]; rfl⟩, by simp [intOf]; omega⟩
            rw [hhe, show ((S : Int) / 2) = ((S / 2 : Nat) : Int) by omega, hxx]
          · have ht : ((S : Int) % 2 == 1) = false := by assumption
            have ht' : ¬ S % 2 = 1 := by have := beq_eq_false_iff_ne.1 ht; omega
            have hhe : half S = S / 2 := by unfold half; rw [if_neg ht']
            refine ⟨⟨j + 1, half S, by omega, hh, by go_num, ?_, by rw [HS.out]; rfl⟩, by simp [intOf]; omega⟩
            rw [hhe, show ((S : Int) / 2) = ((S / 2 : Nat) : Int) by omega]
        · obtain rfl : j = 8 := by omega
          go_wp2
          go_round
          case rel => exact ⟨k + 1, S, by omega, hS, by go_num, rfl, by rw [reg_snoc hlt, Hz.out, HS.out, ← HQ.out, Hreg.out]; rfl⟩
          case measure => simp [intOf]; omega
    · obtain rfl : k = zs.length := by omega
      have hf := flip_u32' R hR
      have hfl := flip_lt hR
      go_wp2
      go_ret
      refine ⟨ret_int (a := wrap64 (bits BinOp.xor IntKind.u32 IntKind.u32.max ↑R)) ?_, rfl⟩
      rw [show IntKind.u32.max = 4294967295 by decide, hf, Hreg.out, List.take_length, wrap64_small _ (by omega) (by rw [Hreg.out, List.take_length] at hfl; omega)]
      rfl

set_option maxHeartbeats 400000 in
theorem rsum_any (b off cap : Nat) (zs : List Int) (w : World) (hm : zs.length ≤ 9223372036854775807) (hin : InB zs)
    (hc : ∀ j, j < zs.length → w.cell? ⟨b, off + j, none⟩ = some (.int .u8 (zs.getD j 0))) :
    Calls Try.prog 21 #[.slice (some ⟨b, off, none⟩) zs.length cap] w fun e w' => e = .returned (.int .i64 (crc zs)) ∧ w = w' := by
  go_enter Try.func21, Try.ntmps21
  go_wp2
  go_loop [3, 4] (fun r i => ∃ (k : Nat) (R : Nat), k ≤ zs.length ∧ R < 4294967296 ∧ i = .int .i64 k ∧ r = .int .u32 R ∧ R = reg (zs.take k)) (fun _ i => zs.length - (intOf i).toNat)
  case atStart => exact ⟨0, 4294967295, by omega, by omega, rfl, rfl, by simp [reg]⟩
  case round =>
    obtain ⟨k, R, hk, hR, rfl, rfl, hreg⟩ := hrel
    have hcell : k < zs.length → w.cell? ⟨b, off + k, none⟩ = some (.int .u8 (zs.getD k 0)) := fun h => hc k (by omega)
    have hrk := hin.getD k
    have Hreg := Lib.hid hreg
    clear hreg
    by_cases hlt : k < zs.length
    · have hcell' := hcell hlt
      generalize hz : zs.getD k 0 = z at hcell' hrk
      have Hz := Lib.hid hz
      clear hz hcell hc
      have hx := xor_u32_int R z hR hrk.1 (by omega)
      have hRx : R ^^^ z.toNat < 4294967296 := xor_lt32 hR (by omega)
      generalize hQ : R ^^^ z.toNat = Q at hx hRx
      have HQ := Lib.hid hQ
      clear hQ
      go_wp2
      go_loop [3, 5] (fun r i => ∃ (j : Nat) (S : Nat), j ≤ 8 ∧ S < 4294967296 ∧ i = .int .i64 j ∧ r = .int .u32 S ∧ S = halves j Q) (fun _ i => 8 - (intOf i).toNat)
      case atStart => exact ⟨0, Q, by omega, by omega, rfl, rfl, rfl⟩
      case round =>
        obtain ⟨j, S, hj, hS, rfl, rfl, hSj⟩ := hrel
        have HS := Lib.hid hSj
        clear hSj
        by_cases hj8 : j < 8
        · have hxx := poly_u32 S hS
          have hh := half_lt hS
          go_wp2
          · have ht : ((S : Int) % 2 == 1) = true := by assumption
            have ht' : S % 2 = 1 := by have := beq_iff_eq.1 ht; omega
            have hhe : half S = (S / 2) ^^^ 3988292384 := by unfold half; rw [if_pos ht']
            refine ⟨⟨j + 1, half S, by omega, hh, by go_num, ?_, by rw [HS.out]; rfl⟩, by simp [intOf]; omega⟩
            rw [hhe, show ((S : Int) / 2) = ((S / 2 : Nat) : Int) by omega, hxx]
          · have ht : ((S : Int) % 2 == 1) = false := by assumption
            have ht' : ¬ S % 2 = 1 := by have := beq_eq_false_iff_ne.1 ht; omega
            have hhe : half S = S / 2 := by unfold half; rw [if_neg ht']
            refine ⟨⟨j + 1, half S, by omega, hh, by go_num, ?_, by rw [HS.out]; rfl⟩, by simp [intOf]; omega⟩
            rw [hhe, show ((S : Int) / 2) = ((S / 2 : Nat) : Int) by omega]
        · obtain rfl : j = 8 := by omega
          go_wp2
          go_round
          case rel => exact ⟨k + 1, S, by omega, hS, by go_num, rfl, by rw [reg_snoc hlt, Hz.out, HS.out, ← HQ.out, Hreg.out]; rfl⟩
          case measure => simp [intOf]; omega
    · obtain rfl : k = zs.length := by omega
      have hf := flip_u32 R hR
      have hfl := flip_lt hR
      go_wp2
      go_ret
      refine ⟨ret_int (a := ((R ^^^ 4294967295 : Nat) : Int)) ?_, rfl⟩
      rw [Hreg.out, List.take_length]
      rfl

theorem sum_empty (a : Option Addr) (cap : Nat) (w : World) :
    Calls Try.prog 20 #[.slice a 0 cap] w fun e w' => e = .returned (.int .i64 (crc [])) ∧ w = w' := by
  have hc : crc [] = 0 := by decide
  rw [hc]
  go_enter Try.func20, Try.ntmps20
  go_wp2
  refine wp_loop_rounds 1 ?_
  rw [rounds_succ]
  go_wp2
  go_ret
  exact ⟨ret_int (by rw [show IntKind.u32.max = 4294967295 by decide, flip_zero]; exact wrap64_small 0 (by decide) (by decide)), rfl⟩
theorem rsum_empty (a : Option Addr) (cap : Nat) (w : World) :
    Calls Try.prog 21 #[.slice a 0 cap] w fun e w' => e = .returned (.int .i64 (crc [])) ∧ w = w' := by
  have hc : crc [] = 0 := by decide
  rw [hc]
  go_enter Try.func21, Try.ntmps21
  go_wp2
  refine wp_loop_rounds 1 ?_
  rw [rounds_succ]
  go_wp2
  go_ret
  exact ⟨ret_int (by rw [flip_zero]; exact wrap64_small 0 (by decide) (by decide)), rfl⟩

/-- what codec.Sum and the reference's Sum return for any byte slice -/
theorem sum_row (a : Option Addr) (n cap : Nat) (zs : List Int) (w : World) (hn : n = zs.length) (hm : zs.length ≤ 9223372036854775807) (hin : InB zs) (hb : BRow w a zs) :
    Calls Try.prog 20 #[.slice a n cap] w fun e w' => e = .returned (.int .i64 (crc zs)) ∧ w = w' := by
  subst hn
  rcases hb with rfl | ⟨b, off, rfl, hc⟩
  · exact sum_empty a cap w
  · exact sum_any b off cap zs w hm hin hc
theorem rsum_row (a : Option Addr) (n cap : Nat) (zs : List Int) (w : World) (hn : n = zs.length) (hm : zs.length ≤ 9223372036854775807) (hin : InB zs) (hb : BRow w a zs) :
    Calls Try.prog 21 #[.slice a n cap] w fun e w' => e = .returned (.int .i64 (crc zs)) ∧ w = w' := by
  subst hn
  rcases hb with rfl | ⟨b, off, rfl, hc⟩
  · exact rsum_empty a cap w
  · exact rsum_any b off cap zs w hm hin hc
end Go.Proofs.Ytlpphnhamfgmiaa
