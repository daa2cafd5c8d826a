import Derived.Test.YtlpphnhamfgmiaaUse
namespace Go.Proofs.Ytlpphnhamfgmiaa
open Go.ChangeShapes Go.WideShapes Go.ChangeAt Go.RowKit

theorem number_any (n : Int) (w : World) (h0 : -9223372036854775808 ≤ n) (h1 : n ≤ 9223372036854775807) :
    Calls Try.prog 22 #[.int .i64 n] w fun e w' => e = .returned (.int .u64 (zig n)) ∧ w = w' := by
  by_cases h : n < 0
  · have hz : (zig n : Int) = 2 * (-(n + 1)) + 1 := by unfold zig; rw [if_pos h]; omega
    rw [hz]
    clear hz
    have b1 : 0 ≤ -(n + 1) := by omega
    have b2 : -(n + 1) ≤ 9223372036854775807 := by omega
    go_enter Try.func22, Try.ntmps22
    go_wp2
    go_ret
    exact ⟨ret_int (by omega), rfl⟩
  · have hz : (zig n : Int) = 2 * n := by unfold zig; rw [if_neg h]; omega
    rw [hz]
    clear hz
    go_enter Try.func22, Try.ntmps22
    go_wp2
    go_ret
    exact ⟨ret_int (by omega), rfl⟩

theorem one_reads (w : World) (x : Int) : Reads (w.alloc (.cells #[.int .u8 x] 5)) (w.heap.size + 1) 1 (some ⟨w.heap.size, 0, none⟩) 1 ([x].map (Value.int .u8)) := by
  refine ⟨rfl, fun _ => ⟨_, rfl, Nat.lt_succ_self _, fun j u hj => ?_⟩⟩
  have hj' : j = 0 := by
    have := (List.getElem?_eq_some_iff.1 hj).1
    simpa using this
  subst hj'
  rw [show (⟨w.heap.size, 0, none⟩ : Addr).add 0 = ⟨w.heap.size, 0, none⟩ by rfl, World.cell?_alloc_mark]
  simpa using hj

set_option maxRecDepth 100000 in
set_option maxHeartbeats 1600000 in
theorem rputint_row (A : Option Addr) (cap : Nat) (zs : List Int) (n : Int) (w : World) (hn0 : -9223372036854775808 ≤ n) (hn1 : n ≤ 9223372036854775807)
    (hr : Reads w w.heap.size 1 A zs.length (zs.map (Value.int .u8))) (hlen : zs.length ≤ 100000) :
    Calls Try.prog 14 #[.slice A zs.length cap, .int .i64 n] w fun e w' => ∃ v, e = .returned v ∧ w'.ownsRow w.heap.size 5 1 v (zs.length + (enc n).length) ((zs ++ enc n).map (Value.int .u8)) ∧ Below w.heap.size w w' := by
  obtain ⟨i0, hi0, hz0, hz1, hz2⟩ := info_parts u8_info
  have hzl := zig_lt hn0 hn1
  have hown0 := own_empty w w.heap.size (Nat.le_refl _)
  have hra := hr.alloc (Nat.le_refl _) (.cells #[] 5)
  go_enter Try.func14, Try.ntmps14
  go_wp2_with (first
    | (at_builtin
       refine wpList_append_any _ rfl (.tmp 7) (.tmp 8) _ rfl w.heap.size 5 i0 _ 1 1 Try.underlying22 hi0 hz0 hz1 hz2 rfl (by omega) (.slice (some ⟨w.heap.size, 0, none⟩) 0 0) 0 [] rfl hown0 w.heap.size A zs.length cap _ rfl hra (one_u8 _) (by simp only [maxLen]; omega) (by omega) (by simp) ?_
       intro v1 V1 hown1 hg1 hat1
       have hb1 : Below w.heap.size w V1 := ((Below.refl _ _).alloc (Nat.le_refl _) (.cells #[] 5)).grown hg1 (by simp) (fun k hk => by simp [Value.ownBlock] at hk; omega)
       rw [Nat.zero_add, List.nil_append] at hown1)
    | (go_at_call 22
       refine (number_any n _ hn0 hn1).mono ?_
       rintro e W ⟨rfl, rfl⟩))
  clear hra hown0 hg1 hat1
  go_loopw [5, 6] (fun v r wr => ∃ (u : Nat) (pre : List Int), pre.length ≤ 9 ∧ r = .int .u64 u ∧ u < 128 ^ (10 - pre.length) ∧ u < 18446744073709551616 ∧ enc n = pre ++ encGo (9 - pre.length) u ∧ wr.ownsRow w.heap.size 5 1 v (zs.length + pre.length) ((zs ++ pre).map (Value.int .u8)) ∧ Below w.heap.size w wr) (fun _ r _ => (intOf r).toNat)
  case atStart => exact ⟨zig n, [], by simp, rfl, Nat.lt_of_lt_of_le hzl (by decide), hzl, rfl, by simpa using hown1, hb1⟩
  case round =>
    obtain ⟨u, pre, hpl, rfl, hu, hu2, henc, hown, hbk⟩ := hrel
    have Henc := Lib.hid henc
    have Hu := Lib.hid hu
    clear henc hu hown1
    by_cases h128 : u < 128
    · have hfin : enc n = pre ++ [(u : Int)] := by rw [Henc.out, encGo_lt h128]
      have Hf := Lib.hid hfin
      clear hfin Henc
      have hw1 : IntKind.u8.wrap (u : Int) = (u : Int) := by rw [IntKind.wrap_u8]; omega
      have hrd := one_reads wr (u : Int)
      have hownA := hown.alloc (.cells #[.int .u8 (u : Int)] 5)
      go_wp2_with (first
        | (at_builtin
           refine wpList_append_any _ rfl (.tmp 23) (.tmp 26) _ rfl w.heap.size 5 i0 _ 1 1 Try.underlying22 hi0 hz0 hz1 hz2 rfl (by omega) _ (zs.length + pre.length) _ rfl hownA (wr.heap.size + 1) (some ⟨wr.heap.size, 0, none⟩) 1 1 _ rfl hrd (one_u8 _) (by simp only [maxLen]; omega) (by omega) (by simp; exact Nat.le_succ_of_le hbk.size) ?_
           intro v2 V2 hown2 hg2 hat2
           have hb2 : Below w.heap.size w V2 := (hbk.alloc hbk.size (.cells #[.int .u8 (u : Int)] 5)).grown hg2 (by simp; exact Nat.le_succ_of_le hbk.size) (fun k hk => (hown.lt k hk).1)))
      go_ret
      refine ⟨v2, rfl, ?_, hb2⟩
      rw [Hf.out]
      simpa [Nat.add_assoc] using hown2
    · have h9 : pre.length < 9 := by
        have := Hu.out
        rcases Nat.lt_or_ge pre.length 9 with h | h
        · exact h
        · rw [show 10 - pre.length = 1 by omega] at this; omega
      have hfin : enc n = (pre ++ [((u % 128 + 128 : Nat) : Int)]) ++ encGo (9 - (pre.length + 1)) (u / 128) := by
        rw [Henc.out, show 9 - pre.length = (9 - (pre.length + 1)) + 1 by omega, encGo_ge h128]; simp
      have Hf := Lib.hid hfin
      clear hfin Henc
      have hrd := one_reads wr ((u : Int) % 128 + 128)
      have hownA := hown.alloc (.cells #[.int .u8 ((u : Int) % 128 + 128)] 5)
      go_wp2_with (first
        | (at_builtin
           refine wpList_append_any _ rfl (.tmp 14) (.tmp 19) _ rfl w.heap.size 5 i0 _ 1 1 Try.underlying22 hi0 hz0 hz1 hz2 rfl (by omega) _ (zs.length + pre.length) _ rfl hownA (wr.heap.size + 1) (some ⟨wr.heap.size, 0, none⟩) 1 1 _ rfl hrd (one_u8 _) (by simp only [maxLen]; omega) (by omega) (by simp; exact Nat.le_succ_of_le hbk.size) ?_
           intro v2 V2 hown2 hg2 hat2
           have hb2 : Below w.heap.size w V2 := (hbk.alloc hbk.size (.cells #[.int .u8 ((u : Int) % 128 + 128)] 5)).grown hg2 (by simp; exact Nat.le_succ_of_le hbk.size) (fun k hk => (hown.lt k hk).1)))
      refine ⟨⟨u / 128, pre ++ [((u % 128 + 128 : Nat) : Int)], by simp; omega, by go_num, ?_, by omega, by rw [Hf.out]; simp, ?_, hb2⟩, by simp [intOf]; omega⟩
      · have := Hu.out
        rw [show 10 - pre.length = (10 - (pre ++ [((u % 128 + 128 : Nat) : Int)]).length) + 1 by simp; omega, Nat.pow_succ] at this
        omega
      · have e : ((u % 128 + 128 : Nat) : Int) = (u : Int) % 128 + 128 := by omega
        rw [e]
        simpa [Nat.add_assoc] using hown2

theorem rputint_made (A : Option Addr) (cap : Nat) (zs : List Int) (n : Int) (w : World) (N : Nat) (hN : N = zs.length + (enc n).length) (hn0 : -9223372036854775808 ≤ n) (hn1 : n ≤ 9223372036854775807)
    (hr : Reads w w.heap.size 1 A zs.length (zs.map (Value.int .u8))) (hlen : zs.length ≤ 100000) :
    Calls Try.prog 14 #[.slice A zs.length cap, .int .i64 n] w fun e w' => ∃ g c, e = .returned (.slice (some ⟨g, 0, none⟩) N c) ∧ Made w.heap.size w' g N c (zs ++ enc n) ∧ w'.ownsRow w.heap.size 5 1 (.slice (some ⟨g, 0, none⟩) N c) N ((zs ++ enc n).map (Value.int .u8)) ∧ Below w.heap.size w w' := by
  refine (rputint_row A cap zs n w hn0 hn1 hr hlen).mono ?_
  rintro e W ⟨v, rfl, hown, hbel⟩
  have hel := enc_len n
  subst hN
  obtain ⟨g, c, rfl, hm⟩ := made_of_own hown (by omega)
  exact ⟨g, c, rfl, hm, hown, hbel⟩

theorem nums_take_succ (s : ByteArray) {k : Nat} (h : k < s.size) : (nums s).take (k + 1) = (nums s).take k ++ [((s[k]).toNat : Int)] := by
  have hl : k < (nums s).length := by rw [nums_length]; exact h
  rw [List.take_succ_eq_append_getElem hl]
  congr 1
  simp only [nums, List.getElem_map, List.cons.injEq, and_true]
  rfl

set_option maxRecDepth 100000 in
set_option maxHeartbeats 1600000 in
theorem rputtext_row (A : Option Addr) (cap : Nat) (zs : List Int) (s : ByteArray) (w : World) (M : Nat) (hM : M = zs.length + (enc s.size).length + s.size) (hs : s.size ≤ 100000)
    (hr : Reads w w.heap.size 1 A zs.length (zs.map (Value.int .u8))) (hlen : zs.length ≤ 100000) :
    Calls Try.prog 15 #[.slice A zs.length cap, .string s] w fun e w' => ∃ g c, e = .returned (.slice (some ⟨g, 0, none⟩) M c) ∧ Made w.heap.size w' g M c (zs ++ enc s.size ++ nums s) ∧ Below w.heap.size w w' := by
  obtain ⟨i0, hi0, hz0, hz1, hz2⟩ := info_parts u8_info
  have hel := enc_len s.size
  obtain ⟨N, hN⟩ : ∃ N, N = zs.length + (enc s.size).length := ⟨_, rfl⟩
  have HN := Lib.hid hN
  have hN1 : 1 ≤ N := by omega
  have hN2 : N ≤ 100010 := by omega
  obtain rfl : M = N + s.size := by omega
  clear hN hel hM
  go_enter Try.func15, Try.ntmps15
  go_wp2_with fail
  refine (rputint_made A cap zs s.size _ N HN.out (by omega) (by omega) hr hlen).mono ?_
  rintro e W ⟨g, c, rfl, hmade, hownW, hbel⟩
  go_wp2
  go_loopw [5, 6] (fun v i wr => ∃ k : Nat, k ≤ s.size ∧ i = .int .i64 k ∧ wr.ownsRow w.heap.size 5 1 v (N + k) ((zs ++ enc s.size ++ (nums s).take k).map (Value.int .u8)) ∧ Below w.heap.size w wr) (fun _ i _ => s.size - (intOf i).toNat)
  case atStart => exact ⟨0, by omega, rfl, by simpa using hownW, hbel⟩
  case round =>
    obtain ⟨k, hk, rfl, hown, hbk⟩ := hrel
    by_cases hlt : k < s.size
    · have hts := nums_take_succ s hlt
      have hbyte := (s[k]).toNat_lt
      have hrd := one_reads wr ((s[k]).toNat : Int)
      have hownA := hown.alloc (.cells #[.int .u8 ((s[k]).toNat : Int)] 5)
      have Hts := Lib.hid hts
      clear hts hownW
      go_wp2_with (first
        | (at_builtin
           refine wpList_append_any _ rfl (.tmp 17) (.tmp 21) _ rfl w.heap.size 5 i0 _ 1 1 Try.underlying22 hi0 hz0 hz1 hz2 rfl (by omega) _ (N + k) _ rfl hownA (wr.heap.size + 1) (some ⟨wr.heap.size, 0, none⟩) 1 1 _ rfl hrd (one_u8 _) (by simp only [maxLen]; omega) (by omega) (by simp; exact Nat.le_succ_of_le hbk.size) ?_
           intro v2 V2 hown2 hg2 hat2
           have hb2 : Below w.heap.size w V2 := (hbk.alloc hbk.size (.cells #[.int .u8 ((s[k]).toNat : Int)] 5)).grown hg2 (by simp; exact Nat.le_succ_of_le hbk.size) (fun k hk => (hown.lt k hk).1)))
      go_roundw
      case rel => exact ⟨k + 1, by omega, by go_num, by rw [Hts.out]; simpa [Nat.add_assoc] using hown2, hb2⟩
      case measure => simp [intOf]; omega
    · obtain rfl : k = s.size := by omega
      rw [List.take_of_length_le (by rw [nums_length]; exact Nat.le_refl _)] at hown
      obtain ⟨g', c', rfl, hm⟩ := made_of_own hown (by omega)
      go_wp2
      go_ret
      exact ⟨_, _, rfl, hm, hbk⟩
end Go.Proofs.Ytlpphnhamfgmiaa
