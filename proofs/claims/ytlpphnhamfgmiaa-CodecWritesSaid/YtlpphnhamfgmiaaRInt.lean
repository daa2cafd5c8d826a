import Derived.Test.YtlpphnhamfgmiaaInt
namespace Go.Proofs.Ytlpphnhamfgmiaa
open Go.ChangeShapes Go.WideShapes Go.ChangeAt Go.RowKit

theorem integer_any (x : Int) (N : Nat) (w : World) (hx : x = (N : Int)) (hN : N < 18446744073709551616) :
    Calls Try.prog 23 #[.int .u64 x] w fun e w' => e = .returned (.int .i64 (unzig N)) ∧ w = w' := by
  subst hx
  by_cases h : N % 2 = 1
  · have h' : ((N : Int) % 2 == 1) = true := by simp; omega
    have hu : unzig N = -((N / 2 : Nat) : Int) - 1 := by unfold unzig; rw [if_pos h]
    rw [hu]
    clear hu h
    go_enter Try.func23, Try.ntmps23
    go_wp2
    go_ret
    exact ⟨ret_int (by omega), rfl⟩
  · have h' : ((N : Int) % 2 == 1) = false := by simp; omega
    have hu : unzig N = ((N / 2 : Nat) : Int) := by unfold unzig; rw [if_neg h]
    rw [hu]
    clear hu h
    go_enter Try.func23, Try.ntmps23
    go_wp2
    go_ret
    exact ⟨ret_int (by omega), rfl⟩

set_option maxHeartbeats 800000 in
theorem rint_any (b off cap : Nat) (zs : List Int) (w : World) (hm : zs.length ≤ 9223372036854775807) (hin : InB zs)
    (hc : ∀ j, j < zs.length → w.cell? ⟨b, off + j, none⟩ = some (.int .u8 (zs.getD j 0))) :
    Calls Try.prog 17 #[.slice (some ⟨b, off, none⟩) zs.length cap] w fun e w' => e = trip (dec zs) ∧ w = w' := by
  go_enter Try.func17, Try.ntmps17
  go_wp2
  go_loop [5, 6, 7] (fun r t i => ∃ (k u P : Nat), k ≤ 9 ∧ k ≤ zs.length ∧ i = .int .i64 k ∧ r = .int .u64 u ∧ t = .int .u64 P ∧ P = 128 ^ k ∧ u < 128 ^ k ∧ dec zs = decGo (10 - k) k u (zs.drop k)) (fun _ _ i => 10 - (intOf i).toNat)
  case atStart => exact ⟨0, 0, 1, by omega, by omega, rfl, rfl, rfl, by decide, by decide, by simp [dec]⟩
  case round =>
    obtain ⟨k, u, P, hk9, hkl, rfl, rfl, rfl, hP, hu, hd⟩ := hrel
    have hk10 : k < 10 := by omega
    have hcell : k < zs.length → w.cell? ⟨b, off + k, none⟩ = some (.int .u8 (zs.getD k 0)) := fun h => hc k (by omega)
    have hrk := hin.getD k
    have Hd := Lib.hid hd
    have HP := Lib.hid hP
    clear hd hc hP
    by_cases hlt : k < zs.length
    · have hcell' := hcell hlt
      generalize hz : zs.getD k 0 = z at hcell' hrk
      have Hs := Lib.hid (dec_step hk10 hlt hz Hd.out)
      clear hz hcell Hd
      by_cases h9z : k = 9 ∧ 1 < z
      · obtain ⟨rfl, h1z⟩ := h9z
        have hfin : dec zs = (0, 0, 10) := by rw [Hs.out, if_pos ⟨rfl, h1z⟩]
        have Hf := Lib.hid hfin
        clear hfin Hs
        go_wp2
        go_ret3
        exact ⟨trip_of Hf.out, rfl⟩
      · have h9 : k = 9 → z ≤ 1 := by omega
        have hlt1 := gather_lt hu hrk.1
        obtain ⟨g1, g2⟩ := gather_64 hk10 hu hrk.1 h9
        rw [if_neg h9z] at Hs
        have hmul : IntKind.u64.wrap (z % 128 * (P : Int)) = (((z % 128).toNat * 128 ^ k : Nat) : Int) := by
          rw [HP.out, IntKind.wrap_u64, Int.natCast_mul, show (((z % 128).toNat : Nat) : Int) = z % 128 by omega]
          have h5 : z % 128 * ((128 ^ k : Nat) : Int) = (((z % 128).toNat * 128 ^ k : Nat) : Int) := by
            rw [Int.natCast_mul, show (((z % 128).toNat : Nat) : Int) = z % 128 by omega]
          rw [h5]; omega
        generalize (z % 128).toNat * 128 ^ k = M at hmul hlt1 g1 g2 Hs
        have hun := unzig_of (u + M) g2
        by_cases h128 : 128 ≤ z
        · by_cases h9' : k = 9
          · omega
          have h9b : ((k : Int) == 9) = false := by simp; omega
          have hP2 : IntKind.u64.wrap ((P : Int) * 128) = ((128 ^ (k + 1) : Nat) : Int) := by
            rw [HP.out, IntKind.wrap_u64, Nat.pow_succ, Int.natCast_mul]
            have := pow128_le (k := k + 1) (by omega)
            rw [Nat.pow_succ] at this
            omega
          have hPe : (128 : Nat) ^ (k + 1) = 128 ^ (k + 1) := rfl
          generalize hQ2 : (128 : Nat) ^ (k + 1) = P2 at hP2 hlt1
          have HQ := Lib.hid hQ2
          clear hPe hQ2
          go_wp2
          go_round
          case rel => exact ⟨k + 1, u + M, P2, by omega, by omega, by go_num, by go_num, rfl, HQ.out.symm, by rw [HQ.out]; exact hlt1, by rw [Hs.out, if_pos h128]⟩
          case measure => simp [intOf]; omega
        · by_cases h9' : k = 9
          · subst h9'
            by_cases h0 : z = 0
            · have h0' : (z == 0) = true := by simpa using h0
              have hfin : dec zs = (0, 0, 10) := by rw [Hs.out, if_neg h128, if_pos ⟨h0, by omega⟩]
              have Hf := Lib.hid hfin
              have H0 := Lib.hid h0
              clear hfin Hs h0
              go_wp2
              go_ret3
              exact ⟨trip_of Hf.out, rfl⟩
            · have h0' : (z == 0) = false := by simpa using h0
              have h1z : z ≤ 1 := h9 rfl
              have hfin : dec zs = (unzig (u + M), 10, 0) := by rw [Hs.out, if_neg h128, if_neg (by omega)]; rfl
              have Hf := Lib.hid hfin
              clear hfin Hs
              go_wp2_with fail
              refine (integer_any _ (u + M) _ (by omega) g2).mono ?_
              rintro e w' ⟨rfl, rfl⟩
              go_wp2
              go_ret3
              exact ⟨trip_of Hf.out, rfl⟩
          · have h9b : ((k : Int) == 9) = false := by simp; omega
            by_cases h0 : z = 0
            · have h0' : (z == 0) = true := by simpa using h0
              by_cases hk0 : 0 < k
              · have hfin : dec zs = (0, 0, 10) := by rw [Hs.out, if_neg h128, if_pos ⟨h0, hk0⟩]
                have Hf := Lib.hid hfin
                have H0 := Lib.hid h0
                clear hfin Hs h0
                go_wp2
                go_ret3
                exact ⟨trip_of Hf.out, rfl⟩
              · have hfin : dec zs = (unzig (u + M), ((k : Int) + 1), 0) := by rw [Hs.out, if_neg h128, if_neg (by omega)]
                have Hf := Lib.hid hfin
                have H0 := Lib.hid h0
                clear hfin Hs h0
                go_wp2_with fail
                refine (integer_any _ (u + M) _ (by omega) g2).mono ?_
                rintro e w' ⟨rfl, rfl⟩
                go_wp2
                go_ret3
                exact ⟨trip_of Hf.out, rfl⟩
            · have h0' : (z == 0) = false := by simpa using h0
              have hfin : dec zs = (unzig (u + M), ((k : Int) + 1), 0) := by rw [Hs.out, if_neg h128, if_neg (by omega)]
              have Hf := Lib.hid hfin
              clear hfin Hs
              go_wp2_with fail
              refine (integer_any _ (u + M) _ (by omega) g2).mono ?_
              rintro e w' ⟨rfl, rfl⟩
              go_wp2
              go_ret3
              exact ⟨trip_of Hf.out, rfl⟩
    · have hfin := dec_short hk10 hlt Hd.out
      have Hf := Lib.hid hfin
      clear hfin Hd
      obtain rfl : k = zs.length := by omega
      go_wp2
      go_ret3
      exact ⟨trip_of Hf.out, rfl⟩

theorem rint_empty (a : Option Addr) (cap : Nat) (w : World) :
    Calls Try.prog 17 #[.slice a 0 cap] w fun e w' => e = trip (dec []) ∧ w = w' := by
  have hd : dec [] = (0, 0, 8) := rfl
  rw [hd]
  go_enter Try.func17, Try.ntmps17
  go_wp2
  refine wp_loop_rounds 1 ?_
  rw [rounds_succ]
  go_wp2
  go_ret3
  exact ⟨rfl, rfl⟩

/-- what the reference's Int returns for any byte slice -/
theorem rint_row (a : Option Addr) (n cap : Nat) (zs : List Int) (w : World) (hn : n = zs.length) (hm : zs.length ≤ 9223372036854775807) (hin : InB zs) (hb : BRow w a zs) :
    Calls Try.prog 17 #[.slice a n cap] w fun e w' => e = trip (dec zs) ∧ w = w' := by
  subst hn
  rcases hb with rfl | ⟨b, off, rfl, hc⟩
  · exact rint_empty a cap w
  · exact rint_any b off cap zs w hm hin hc
end Go.Proofs.Ytlpphnhamfgmiaa
