/- Contracts: Truncate and Crash on a disk that is ready. -/
import Derived.Test.YtdchodjfgeglgaaReady
namespace Go.Proofs.Ytdchodjfgeglgaa
open Go.ChangeShapes Go.WideShapes Go.ChangeAt Go.RowKit

set_option maxRecDepth 100000 in
set_option maxHeartbeats 1600000 in
theorem trunc_lt (s : Int) (A : Option Addr) (n cap : Nat) (du le : Int) (k : Nat) (w : World) (h : okB s n du le = true) (hk : k ≤ n) (hnc : n ≤ cap) (hcm : cap ≤ 9223372036854775807) (hkd : (k : Int) < du) :
    Calls Try.prog 21 #[.agg #[.int .i64 s, .slice A n cap, .int .i64 du, .int .i64 le, .bool false], .int .i64 k] w fun e w' => e = .returned (.tuple #[.agg #[.int .i64 s, .slice A k k, .int .i64 k, .int .i64 le, .bool false], .int .i64 0]) ∧ Below w.heap.size w w' := by
  have C := Lib.hid (fun W : World => ready_ok s A n cap du le W h)
  obtain ⟨h1, h2, h3, h4, h5, h6, h7⟩ := okB_iff.1 h
  clear h
  go_enter Try.func21, Try.ntmps21
  go_wp2_with fail
  refine (C.out _).mono ?_
  rintro e W ⟨rfl, hb⟩
  clear C
  have b2 := ((Bx.new w _ _ _ _ _).alloc _).keep hb
  have b4 := (Bx.new1 w _ _ _ _ _ _).keep hb
  have hB := (two_ _ _).trans (hb.mono (two_ (w := w) _ _).size)
  clear hb
  have hz0 := b2.lt
  have hz1 := b4.lt
  obtain ⟨-, k0, k1, k2, k3, k4, kf⟩ := b2
  obtain ⟨-, j0, j1, j2, j3, j4, jf⟩ := b4
  go_wp2_with (go_at_call 27; refine (clip_any _ _ _ _ (by omega) hcm).mono ?_; rintro e w' ⟨rfl, rfl⟩)
  refine bodyPost_ret (v := .tuple #[.agg #[.int .i64 s, .slice A k k, .int .i64 k, .int .i64 le, .bool false], .int .i64 0]) (by simp only [results, Try.results21]; go_simp) rfl ⟨rfl, ?_⟩
  repeat' (first | (with_reducible exact hB) | (with_reducible refine Below.setCell ?_ ?_ _) | (with_reducible refine Below.alloc ?_ ?_ _) | (with_reducible refine Below.drew ?_) | (simp; done) | omega | (simp; omega))

set_option maxRecDepth 100000 in
set_option maxHeartbeats 1600000 in
theorem trunc_ge (s : Int) (A : Option Addr) (n cap : Nat) (du le : Int) (k : Nat) (w : World) (h : okB s n du le = true) (hk : k ≤ n) (hnc : n ≤ cap) (hcm : cap ≤ 9223372036854775807) (hkd : du ≤ k) :
    Calls Try.prog 21 #[.agg #[.int .i64 s, .slice A n cap, .int .i64 du, .int .i64 le, .bool false], .int .i64 k] w fun e w' => e = .returned (.tuple #[.agg #[.int .i64 s, .slice A k k, .int .i64 du, .int .i64 le, .bool false], .int .i64 0]) ∧ Below w.heap.size w w' := by
  have C := Lib.hid (fun W : World => ready_ok s A n cap du le W h)
  obtain ⟨h1, h2, h3, h4, h5, h6, h7⟩ := okB_iff.1 h
  clear h
  go_enter Try.func21, Try.ntmps21
  go_wp2_with fail
  refine (C.out _).mono ?_
  rintro e W ⟨rfl, hb⟩
  clear C
  have b2 := ((Bx.new w _ _ _ _ _).alloc _).keep hb
  have b4 := (Bx.new1 w _ _ _ _ _ _).keep hb
  have hB := (two_ _ _).trans (hb.mono (two_ (w := w) _ _).size)
  clear hb
  have hz0 := b2.lt
  have hz1 := b4.lt
  obtain ⟨-, k0, k1, k2, k3, k4, kf⟩ := b2
  obtain ⟨-, j0, j1, j2, j3, j4, jf⟩ := b4
  go_wp2_with (go_at_call 27; refine (clip_any _ _ _ _ (by omega) hcm).mono ?_; rintro e w' ⟨rfl, rfl⟩)
  refine bodyPost_ret (v := .tuple #[.agg #[.int .i64 s, .slice A k k, .int .i64 du, .int .i64 le, .bool false], .int .i64 0]) (by simp only [results, Try.results21]; go_simp) rfl ⟨rfl, ?_⟩
  repeat' (first | (with_reducible exact hB) | (with_reducible refine Below.setCell ?_ ?_ _) | (with_reducible refine Below.alloc ?_ ?_ _) | (with_reducible refine Below.drew ?_) | (simp; done) | omega | (simp; omega))

set_option maxRecDepth 100000 in
set_option maxHeartbeats 1600000 in
theorem crash_bad (s : Int) (A : Option Addr) (n cap : Nat) (du le : Int) (dn : Bool) (k : Int) (w : World) (h : okB s n du le = false) :
    Calls Try.prog 17 #[.agg #[.int .i64 s, .slice A n cap, .int .i64 du, .int .i64 le, .bool dn], .int .i64 k] w fun e w' => e = .returned (.agg #[.int .i64 s, .slice A n cap, .int .i64 du, .int .i64 le, .bool dn]) ∧ Below w.heap.size w w' := by
  have C := Lib.hid (fun W : World => check_bad s A n cap du le dn W h)
  clear h
  go_enter Try.func17, Try.ntmps17
  go_wp2_with fail
  refine (C.out _).mono ?_
  rintro e W ⟨rfl, hb⟩
  clear C
  have b2 := ((Bx.new w _ _ _ _ _).alloc _).keep hb
  have b4 := (Bx.new1 w _ _ _ _ _ _).keep hb
  have hB := (two_ _ _).trans (hb.mono (two_ (w := w) _ _).size)
  clear hb
  have hz0 := b2.lt
  have hz1 := b4.lt
  obtain ⟨-, k0, k1, k2, k3, k4, kf⟩ := b2
  obtain ⟨-, j0, j1, j2, j3, j4, jf⟩ := b4
  go_wp2
  refine bodyPost_ret (v := .agg #[.int .i64 s, .slice A n cap, .int .i64 du, .int .i64 le, .bool dn]) (by simp only [results, Try.results17]; go_simp) rfl ⟨rfl, ?_⟩
  repeat' (first | (with_reducible exact hB) | (with_reducible refine Below.setCell ?_ ?_ _) | (with_reducible refine Below.alloc ?_ ?_ _) | (with_reducible refine Below.drew ?_) | (simp; done) | omega | (simp; omega))

set_option maxRecDepth 100000 in
set_option maxHeartbeats 1600000 in
theorem crash_lo (s : Int) (A : Option Addr) (n cap : Nat) (du le : Int) (dn : Bool) (k : Int) (w : World) (h : okB s n du le = true) (hnc : n ≤ cap) (hcm : cap ≤ 9223372036854775807) (hk : k < 0) :
    Calls Try.prog 17 #[.agg #[.int .i64 s, .slice A n cap, .int .i64 du, .int .i64 le, .bool dn], .int .i64 k] w fun e w' => e = .returned (.agg #[.int .i64 s, .slice A du.toNat du.toNat, .int .i64 du, .int .i64 (-1), .bool false]) ∧ Below w.heap.size w w' := by
  have C := Lib.hid (fun W : World => check_ok s A n cap du le dn W h)
  obtain ⟨h1, h2, h3, h4, h5, h6, h7⟩ := okB_iff.1 h
  clear h
  have g3 : 0 ≤ (n - du) := by omega
  have g4 : 0 ≤ du := by omega
  have g5 : du ≤ cap := by omega
  go_enter Try.func17, Try.ntmps17
  go_wp2_with fail
  refine (C.out _).mono ?_
  rintro e W ⟨rfl, hb⟩
  clear C
  have b2 := ((Bx.new w _ _ _ _ _).alloc _).keep hb
  have b4 := (Bx.new1 w _ _ _ _ _ _).keep hb
  have hB := (two_ _ _).trans (hb.mono (two_ (w := w) _ _).size)
  clear hb
  have hz0 := b2.lt
  have hz1 := b4.lt
  obtain ⟨-, k0, k1, k2, k3, k4, kf⟩ := b2
  obtain ⟨-, j0, j1, j2, j3, j4, jf⟩ := b4
  go_wp2_with (go_at_call 27; refine (clip_any _ _ _ _ (by omega) hcm).mono ?_; rintro e w' ⟨rfl, rfl⟩)
  refine bodyPost_ret (v := .agg #[.int .i64 s, .slice A du.toNat du.toNat, .int .i64 du, .int .i64 (-1), .bool false]) (by simp only [results, Try.results17]; go_simp) rfl ⟨rfl, ?_⟩
  repeat' (first | (with_reducible exact hB) | (with_reducible refine Below.setCell ?_ ?_ _) | (with_reducible refine Below.alloc ?_ ?_ _) | (with_reducible refine Below.drew ?_) | (simp; done) | omega | (simp; omega))

set_option maxRecDepth 100000 in
set_option maxHeartbeats 1600000 in
theorem crash_mid (s : Int) (A : Option Addr) (n cap : Nat) (du le : Int) (dn : Bool) (k : Int) (w : World) (h : okB s n du le = true) (hnc : n ≤ cap) (hcm : cap ≤ 9223372036854775807) (hk : 0 ≤ k) (hk2 : k ≤ n - du) :
    Calls Try.prog 17 #[.agg #[.int .i64 s, .slice A n cap, .int .i64 du, .int .i64 le, .bool dn], .int .i64 k] w fun e w' => e = .returned (.agg #[.int .i64 s, .slice A (du + k).toNat (du + k).toNat, .int .i64 (du + k), .int .i64 (-1), .bool false]) ∧ Below w.heap.size w w' := by
  have C := Lib.hid (fun W : World => check_ok s A n cap du le dn W h)
  obtain ⟨h1, h2, h3, h4, h5, h6, h7⟩ := okB_iff.1 h
  clear h
  have g3 : 0 ≤ (n - du) := by omega
  have g4 : 0 ≤ (du + k) := by omega
  have g5 : (du + k) ≤ cap := by omega
  go_enter Try.func17, Try.ntmps17
  go_wp2_with fail
  refine (C.out _).mono ?_
  rintro e W ⟨rfl, hb⟩
  clear C
  have b2 := ((Bx.new w _ _ _ _ _).alloc _).keep hb
  have b4 := (Bx.new1 w _ _ _ _ _ _).keep hb
  have hB := (two_ _ _).trans (hb.mono (two_ (w := w) _ _).size)
  clear hb
  have hz0 := b2.lt
  have hz1 := b4.lt
  obtain ⟨-, k0, k1, k2, k3, k4, kf⟩ := b2
  obtain ⟨-, j0, j1, j2, j3, j4, jf⟩ := b4
  go_wp2_with (go_at_call 27; refine (clip_any _ _ _ _ (by omega) hcm).mono ?_; rintro e w' ⟨rfl, rfl⟩)
  refine bodyPost_ret (v := .agg #[.int .i64 s, .slice A (du + k).toNat (du + k).toNat, .int .i64 (du + k), .int .i64 (-1), .bool false]) (by simp only [results, Try.results17]; go_simp) rfl ⟨rfl, ?_⟩
  repeat' (first | (with_reducible exact hB) | (with_reducible refine Below.setCell ?_ ?_ _) | (with_reducible refine Below.alloc ?_ ?_ _) | (with_reducible refine Below.drew ?_) | (simp; done) | omega | (simp; omega))

set_option maxRecDepth 100000 in
set_option maxHeartbeats 1600000 in
theorem crash_hi (s : Int) (A : Option Addr) (n cap : Nat) (du le : Int) (dn : Bool) (k : Int) (w : World) (h : okB s n du le = true) (hnc : n ≤ cap) (hcm : cap ≤ 9223372036854775807) (hk : 0 ≤ k) (hk2 : n - du < k) :
    Calls Try.prog 17 #[.agg #[.int .i64 s, .slice A n cap, .int .i64 du, .int .i64 le, .bool dn], .int .i64 k] w fun e w' => e = .returned (.agg #[.int .i64 s, .slice A (du + (n - du)).toNat (du + (n - du)).toNat, .int .i64 (du + (n - du)), .int .i64 (-1), .bool false]) ∧ Below w.heap.size w w' := by
  have C := Lib.hid (fun W : World => check_ok s A n cap du le dn W h)
  obtain ⟨h1, h2, h3, h4, h5, h6, h7⟩ := okB_iff.1 h
  clear h
  have g3 : 0 ≤ (n - du) := by omega
  have g4 : 0 ≤ (du + (n - du)) := by omega
  have g5 : (du + (n - du)) ≤ cap := by omega
  go_enter Try.func17, Try.ntmps17
  go_wp2_with fail
  refine (C.out _).mono ?_
  rintro e W ⟨rfl, hb⟩
  clear C
  have b2 := ((Bx.new w _ _ _ _ _).alloc _).keep hb
  have b4 := (Bx.new1 w _ _ _ _ _ _).keep hb
  have hB := (two_ _ _).trans (hb.mono (two_ (w := w) _ _).size)
  clear hb
  have hz0 := b2.lt
  have hz1 := b4.lt
  obtain ⟨-, k0, k1, k2, k3, k4, kf⟩ := b2
  obtain ⟨-, j0, j1, j2, j3, j4, jf⟩ := b4
  go_wp2_with (go_at_call 27; refine (clip_any _ _ _ _ (by omega) hcm).mono ?_; rintro e w' ⟨rfl, rfl⟩)
  refine bodyPost_ret (v := .agg #[.int .i64 s, .slice A (du + (n - du)).toNat (du + (n - du)).toNat, .int .i64 (du + (n - du)), .int .i64 (-1), .bool false]) (by simp only [results, Try.results17]; go_simp) rfl ⟨rfl, ?_⟩
  repeat' (first | (with_reducible exact hB) | (with_reducible refine Below.setCell ?_ ?_ _) | (with_reducible refine Below.alloc ?_ ?_ _) | (with_reducible refine Below.drew ?_) | (simp; done) | omega | (simp; omega))
end Go.Proofs.Ytdchodjfgeglgaa
