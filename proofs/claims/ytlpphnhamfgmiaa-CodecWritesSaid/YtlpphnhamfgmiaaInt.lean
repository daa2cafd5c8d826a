import Derived.Test.YtlpphnhamfgmiaaSum
import Derived.Test.YtlpphnhamfgmiaaPlainInt
namespace Go.Proofs.Ytlpphnhamfgmiaa
open Go.ChangeShapes Go.WideShapes Go.ChangeAt Go.RowKit

def trip (r : Int × Int × Int) : Ending := .returned (.tuple #[.int .i64 r.1, .int .i64 r.2.1, .int .i64 r.2.2])

theorem unzig_of (N : Nat) (hN : N < 18446744073709551616) :
    bits .xor .i64 ((N : Int) / 2) (wrap64 (-wrap64 (bits .and .u64 (N : Int) 1))) = unzig N := by
  rw [and1_u64 N hN, wrap64_small ((N % 2 : Nat) : Int) (by omega) (by omega), wrap64_small _ (by omega) (by omega)]
  unfold unzig
  by_cases h : N % 2 = 1
  · rw [if_pos h, h]
    have := xor_i64_neg1 ((N : Int) / 2) (by omega) (by omega)
    rw [show (-((1 : Nat) : Int)) = -1 by rfl, this]; omega
  · rw [if_neg h, show N % 2 = 0 by omega]
    have := xor_i64_zero ((N : Int) / 2) (by omega) (by omega)
    rw [show (-((0 : Nat) : Int)) = 0 by rfl, this]; omega

theorem trip_of {a b c : Int} {r : Int × Int × Int} (h : r = (a, b, c)) : Ending.returned (.tuple #[.int .i64 a, .int .i64 b, .int .i64 c]) = trip r := by rw [h]; rfl

theorem dec_step {zs : List Int} {k u : Nat} {z : Int} (hk : k < 10) (hlt : k < zs.length) (hz : zs.getD k 0 = z) (hd : dec zs = decGo (10 - k) k u (zs.drop k)) :
    dec zs = if k = 9 ∧ 1 < z then (0, 0, 10)
    else if 128 ≤ z then decGo (10 - (k + 1)) (k + 1) (u + (z % 128).toNat * 128 ^ k) (zs.drop (k + 1))
    else if z = 0 ∧ 0 < k then (0, 0, 10)
    else (unzig (u + (z % 128).toNat * 128 ^ k), k + 1, 0) := by
  have e1 : 10 - k = (10 - (k + 1)) + 1 := by omega
  have e2 : zs.drop k = z :: zs.drop (k + 1) := by
    rw [List.drop_eq_getElem_cons hlt, ← hz]; simp [List.getD, hlt]
  rw [hd, e1, e2]
  simp only [decGo]
theorem dec_short {zs : List Int} {k u : Nat} (hk : k < 10) (hge : ¬ k < zs.length) (hd : dec zs = decGo (10 - k) k u (zs.drop k)) : dec zs = (0, 0, 8) := by
  have e1 : 10 - k = (10 - (k + 1)) + 1 := by omega
  rw [hd, e1, List.drop_eq_nil_of_le (by omega)]
  rfl

set_option maxHeartbeats 800000 in
theorem int_any (b off cap : Nat) (zs : List Int) (w : World) (hm : zs.length ≤ 9223372036854775807) (hin : InB zs)
    (hc : ∀ j, j < zs.length → w.cell? ⟨b, off + j, none⟩ = some (.int .u8 (zs.getD j 0))) :
    Calls Try.prog 16 #[.slice (some ⟨b, off, none⟩) zs.length cap] w fun e w' => e = trip (dec zs) ∧ w = w' := by
  go_enter Try.func16, Try.ntmps16
  go_wp2
  go_loop [5, 7] (fun r i => ∃ (k u : Nat), k ≤ 10 ∧ k ≤ zs.length ∧ i = .int .i64 k ∧ r = .int .u64 u ∧ u < 128 ^ k ∧ dec zs = decGo (10 - k) k u (zs.drop k)) (fun _ i => 10 - (intOf i).toNat)
  case atStart => exact ⟨0, 0, by omega, by omega, rfl, rfl, by decide, by simp [dec]⟩
  case round =>
    obtain ⟨k, u, hk, hkl, rfl, rfl, hu, hd⟩ := hrel
    have hcell : k < zs.length → w.cell? ⟨b, off + k, none⟩ = some (.int .u8 (zs.getD k 0)) := fun h => hc k (by omega)
    have hrk := hin.getD k
    have Hd := Lib.hid hd
    clear hd hc
    by_cases hk10 : k < 10
    · by_cases hlt : k < zs.length
      · have hcell' := hcell hlt
        generalize hz : zs.getD k 0 = z at hcell' hrk
        have Hs := Lib.hid (dec_step hk10 hlt hz Hd.out)
        clear hz hcell Hd
        have hkl' : ((k : Int) == (zs.length : Int)) = false := by simp; omega
        by_cases h9z : k = 9 ∧ 1 < z
        · obtain ⟨rfl, h1z⟩ := h9z
          have hfin : dec zs = (0, 0, 10) := by rw [Hs.out, if_pos ⟨rfl, h1z⟩]
          have Hf := Lib.hid hfin
          clear hfin Hs
          go_wp2
          go_ret3
          exact ⟨trip_of Hf.out, rfl⟩
        · have h9 : k = 9 → z ≤ 1 := by omega
          have hor := or_gather hk10 hu hrk.1 hrk.2 h9
          have hlt1 := gather_lt hu hrk.1
          have h64 := (gather_64 hk10 hu hrk.1 h9).2
          rw [if_neg h9z] at Hs
          generalize u + (z % 128).toNat * 128 ^ k = N at hor hlt1 h64 Hs
          have hun := unzig_of N h64
          by_cases h9' : k = 9
          · subst h9'
            have h1z : z ≤ 1 := h9 rfl
            have hor9 : bits .or .u64 (u : Int) (IntKind.u64.wrap (IntKind.u64.wrap (bits .and .u8 z 127) * 9223372036854775808)) = (N : Int) := hor
            clear hor
            by_cases h0 : z = 0
            · have h0' : (z == 0) = true := by simpa using h0
              have hfin : dec zs = (0, 0, 10) := by rw [Hs.out, if_neg (by omega), if_pos ⟨h0, by omega⟩]
              have Hf := Lib.hid hfin
              have H0 := Lib.hid h0
              clear hfin Hs h0
              go_wp2
              go_ret3
              exact ⟨trip_of Hf.out, rfl⟩
            · have h0' : (z == 0) = false := by simpa using h0
              have hfin : dec zs = (unzig N, 10, 0) := by rw [Hs.out, if_neg (by omega), if_neg (by omega)]; rfl
              have Hf := Lib.hid hfin
              clear hfin Hs
              go_wp2
              go_ret3
              exact ⟨trip_of Hf.out, rfl⟩
          · have h9b : ((k : Int) == 9) = false := by simp; omega
            by_cases h128 : 128 ≤ z
            · go_wp2
              go_round
              case rel => exact ⟨k + 1, N, by omega, by omega, by go_num, rfl, hlt1, by rw [Hs.out, if_pos h128]⟩
              case measure => simp [intOf]; omega
            · by_cases h0 : z = 0
              · have h0' : (z == 0) = true := by simpa using h0
                by_cases hk0 : 0 < k
                · have hfin : dec zs = (0, 0, 10) := by rw [Hs.out, if_neg h128, if_pos ⟨h0, hk0⟩]
                  have Hf := Lib.hid hfin
                  have H0 := Lib.hid h0
                  clear hfin Hs h0
                  go_wp2
                  go_ret3
                  exact ⟨trip_of Hf.out, rfl⟩
                · have hfin : dec zs = (unzig N, ((k : Int) + 1), 0) := by rw [Hs.out, if_neg h128, if_neg (by omega)]
                  have Hf := Lib.hid hfin
                  have H0 := Lib.hid h0
                  clear hfin Hs h0
                  go_wp2
                  go_ret3
                  exact ⟨trip_of Hf.out, rfl⟩
              · have h0' : (z == 0) = false := by simpa using h0
                have hfin : dec zs = (unzig N, ((k : Int) + 1), 0) := by rw [Hs.out, if_neg h128, if_neg (by omega)]
                have Hf := Lib.hid hfin
                clear hfin Hs
                go_wp2
                go_ret3
                exact ⟨trip_of Hf.out, rfl⟩
      · have hfin := dec_short hk10 hlt Hd.out
        have Hf := Lib.hid hfin
        clear hfin Hd
        obtain rfl : k = zs.length := by omega
        go_wp2
        go_ret3
        exact ⟨trip_of Hf.out, rfl⟩
    · obtain rfl : k = 10 := by omega
      go_wp2
      go_ret3
      exact ⟨trip_of Hd.out, rfl⟩

theorem int_empty (a : Option Addr) (cap : Nat) (w : World) :
    Calls Try.prog 16 #[.slice a 0 cap] w fun e w' => e = trip (dec []) ∧ w = w' := by
  have hd : dec [] = (0, 0, 8) := rfl
  rw [hd]
  go_enter Try.func16, Try.ntmps16
  go_wp2
  refine wp_loop_rounds 1 ?_
  rw [rounds_succ]
  go_wp2
  go_ret3
  exact ⟨rfl, rfl⟩

/-- what codec.Int returns for any byte slice -/
theorem int_row (a : Option Addr) (n cap : Nat) (zs : List Int) (w : World) (hn : n = zs.length) (hm : zs.length ≤ 9223372036854775807) (hin : InB zs) (hb : BRow w a zs) :
    Calls Try.prog 16 #[.slice a n cap] w fun e w' => e = trip (dec zs) ∧ w = w' := by
  subst hn
  rcases hb with rfl | ⟨b, off, rfl, hc⟩
  · exact int_empty a cap w
  · exact int_any b off cap zs w hm hin hc
end Go.Proofs.Ytlpphnhamfgmiaa
