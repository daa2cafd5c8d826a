/- Contracts: Sync, Truncate, Arm, Crash and New. -/
import Derived.Test.YtdchodjfgeglgaaReady
namespace Go.Proofs.Ytdchodjfgeglgaa
open Go.ChangeShapes Go.WideShapes Go.ChangeAt Go.RowKit

set_option maxRecDepth 100000 in
set_option maxHeartbeats 1600000 in
theorem sync_zero (s : Int) (A : Option Addr) (n cap : Nat) (du : Int) (w : World) (h : okB s n du 0 = true) :
    Calls Try.prog 19 #[.agg #[.int .i64 s, .slice A n cap, .int .i64 du, .int .i64 0, .bool false]] w fun e w' => e = .returned (.tuple #[.agg #[.int .i64 s, .slice A n cap, .int .i64 du, .int .i64 0, .bool true], .int .i64 19]) ∧ Below w.heap.size w w' := by
  have C := Lib.hid (fun W : World => ready_ok s A n cap du 0 W h)
  obtain ⟨h1, h2, h3, h4, h5, h6, h7⟩ := okB_iff.1 h
  clear h
  go_enter Try.func19, Try.ntmps19
  go_wp2_with fail
  refine (C.out _).mono ?_
  rintro e W ⟨rfl, hb⟩
  clear C
  have b2 := ((Bx.new w _ _ _ _ _).alloc _).keep hb
  have b4 := (Bx.new1 w _ _ _ _ _ _).keep hb
  have hB := (two_ _ _).trans (hb.mono (two_ (w := w) _ _).size)
  clear hb
  have hz0 := b2.lt
  have hz1 := b4.lt
  obtain ⟨-, k0, k1, k2, k3, k4, kf⟩ := b2
  obtain ⟨-, j0, j1, j2, j3, j4, jf⟩ := b4
  go_wp2
  refine bodyPost_ret (v := .tuple #[.agg #[.int .i64 s, .slice A n cap, .int .i64 du, .int .i64 0, .bool true], .int .i64 19]) (by simp only [results, Try.results19]; go_simp) rfl ⟨rfl, ?_⟩
  repeat' (first | (with_reducible exact hB) | (with_reducible refine Below.setCell ?_ ?_ _) | (with_reducible refine Below.alloc ?_ ?_ _) | (with_reducible refine Below.drew ?_) | (simp; done) | omega | (simp; omega))

set_option maxRecDepth 100000 in
set_option maxHeartbeats 1600000 in
theorem sync_ok (s : Int) (A : Option Addr) (n cap : Nat) (du le : Int) (w : World) (h : okB s n du le = true) (hle : (le == 0) = false) :
    Calls Try.prog 19 #[.agg #[.int .i64 s, .slice A n cap, .int .i64 du, .int .i64 le, .bool false]] w fun e w' => e = .returned (.tuple #[.agg #[.int .i64 s, .slice A n cap, .int .i64 n, .int .i64 le, .bool false], .int .i64 0]) ∧ Below w.heap.size w w' := by
  have C := Lib.hid (fun W : World => ready_ok s A n cap du le W h)
  obtain ⟨h1, h2, h3, h4, h5, h6, h7⟩ := okB_iff.1 h
  clear h
  go_enter Try.func19, Try.ntmps19
  go_wp2_with fail
  refine (C.out _).mono ?_
  rintro e W ⟨rfl, hb⟩
  clear C
  have b2 := ((Bx.new w _ _ _ _ _).alloc _).keep hb
  have b4 := (Bx.new1 w _ _ _ _ _ _).keep hb
  have hB := (two_ _ _).trans (hb.mono (two_ (w := w) _ _).size)
  clear hb
  have hz0 := b2.lt
  have hz1 := b4.lt
  obtain ⟨-, k0, k1, k2, k3, k4, kf⟩ := b2
  obtain ⟨-, j0, j1, j2, j3, j4, jf⟩ := b4
  go_wp2
  refine bodyPost_ret (v := .tuple #[.agg #[.int .i64 s, .slice A n cap, .int .i64 n, .int .i64 le, .bool false], .int .i64 0]) (by simp only [results, Try.results19]; go_simp) rfl ⟨rfl, ?_⟩
  repeat' (first | (with_reducible exact hB) | (with_reducible refine Below.setCell ?_ ?_ _) | (with_reducible refine Below.alloc ?_ ?_ _) | (with_reducible refine Below.drew ?_) | (simp; done) | omega | (simp; omega))

set_option maxRecDepth 100000 in
set_option maxHeartbeats 1600000 in
theorem arm_low (s : Int) (A : Option Addr) (n cap : Nat) (du le : Int) (k : Int) (w : World) (h : okB s n du le = true) (hk : k < 0) :
    Calls Try.prog 20 #[.agg #[.int .i64 s, .slice A n cap, .int .i64 du, .int .i64 le, .bool false], .int .i64 k] w fun e w' => e = .returned (.tuple #[.agg #[.int .i64 0, .slice none 0 0, .int .i64 0, .int .i64 0, .bool false], .int .i64 2]) ∧ Below w.heap.size w w' := by
  have C := Lib.hid (fun W : World => ready_ok s A n cap du le W h)
  obtain ⟨h1, h2, h3, h4, h5, h6, h7⟩ := okB_iff.1 h
  clear h
  go_enter Try.func20, Try.ntmps20
  go_wp2_with fail
  refine (C.out _).mono ?_
  rintro e W ⟨rfl, hb⟩
  clear C
  have b2 := ((Bx.new w _ _ _ _ _).alloc _).keep hb
  have b4 := (Bx.new1 w _ _ _ _ _ _).keep hb
  have hB := (two_ _ _).trans (hb.mono (two_ (w := w) _ _).size)
  clear hb
  have hz0 := b2.lt
  have hz1 := b4.lt
  obtain ⟨-, k0, k1, k2, k3, k4, kf⟩ := b2
  obtain ⟨-, j0, j1, j2, j3, j4, jf⟩ := b4
  go_wp2
  refine bodyPost_ret (v := .tuple #[.agg #[.int .i64 0, .slice none 0 0, .int .i64 0, .int .i64 0, .bool false], .int .i64 2]) (by simp only [results, Try.results20]; go_simp) rfl ⟨rfl, ?_⟩
  repeat' (first | (with_reducible exact hB) | (with_reducible refine Below.setCell ?_ ?_ _) | (with_reducible refine Below.alloc ?_ ?_ _) | (with_reducible refine Below.drew ?_) | (simp; done) | omega | (simp; omega))

set_option maxRecDepth 100000 in
set_option maxHeartbeats 1600000 in
theorem arm_high (s : Int) (A : Option Addr) (n cap : Nat) (du le : Int) (k : Int) (w : World) (h : okB s n du le = true) (hk : 1048576 < k) :
    Calls Try.prog 20 #[.agg #[.int .i64 s, .slice A n cap, .int .i64 du, .int .i64 le, .bool false], .int .i64 k] w fun e w' => e = .returned (.tuple #[.agg #[.int .i64 0, .slice none 0 0, .int .i64 0, .int .i64 0, .bool false], .int .i64 2]) ∧ Below w.heap.size w w' := by
  have C := Lib.hid (fun W : World => ready_ok s A n cap du le W h)
  obtain ⟨h1, h2, h3, h4, h5, h6, h7⟩ := okB_iff.1 h
  clear h
  go_enter Try.func20, Try.ntmps20
  go_wp2_with fail
  refine (C.out _).mono ?_
  rintro e W ⟨rfl, hb⟩
  clear C
  have b2 := ((Bx.new w _ _ _ _ _).alloc _).keep hb
  have b4 := (Bx.new1 w _ _ _ _ _ _).keep hb
  have hB := (two_ _ _).trans (hb.mono (two_ (w := w) _ _).size)
  clear hb
  have hz0 := b2.lt
  have hz1 := b4.lt
  obtain ⟨-, k0, k1, k2, k3, k4, kf⟩ := b2
  obtain ⟨-, j0, j1, j2, j3, j4, jf⟩ := b4
  go_wp2
  refine bodyPost_ret (v := .tuple #[.agg #[.int .i64 0, .slice none 0 0, .int .i64 0, .int .i64 0, .bool false], .int .i64 2]) (by simp only [results, Try.results20]; go_simp) rfl ⟨rfl, ?_⟩
  repeat' (first | (with_reducible exact hB) | (with_reducible refine Below.setCell ?_ ?_ _) | (with_reducible refine Below.alloc ?_ ?_ _) | (with_reducible refine Below.drew ?_) | (simp; done) | omega | (simp; omega))

set_option maxRecDepth 100000 in
set_option maxHeartbeats 1600000 in
theorem arm_ok (s : Int) (A : Option Addr) (n cap : Nat) (du le : Int) (k : Int) (w : World) (h : okB s n du le = true) (hk : 0 ≤ k) (hk2 : k ≤ 1048576) :
    Calls Try.prog 20 #[.agg #[.int .i64 s, .slice A n cap, .int .i64 du, .int .i64 le, .bool false], .int .i64 k] w fun e w' => e = .returned (.tuple #[.agg #[.int .i64 s, .slice A n cap, .int .i64 du, .int .i64 k, .bool false], .int .i64 0]) ∧ Below w.heap.size w w' := by
  have C := Lib.hid (fun W : World => ready_ok s A n cap du le W h)
  obtain ⟨h1, h2, h3, h4, h5, h6, h7⟩ := okB_iff.1 h
  clear h
  go_enter Try.func20, Try.ntmps20
  go_wp2_with fail
  refine (C.out _).mono ?_
  rintro e W ⟨rfl, hb⟩
  clear C
  have b2 := ((Bx.new w _ _ _ _ _).alloc _).keep hb
  have b4 := (Bx.new1 w _ _ _ _ _ _).keep hb
  have hB := (two_ _ _).trans (hb.mono (two_ (w := w) _ _).size)
  clear hb
  have hz0 := b2.lt
  have hz1 := b4.lt
  obtain ⟨-, k0, k1, k2, k3, k4, kf⟩ := b2
  obtain ⟨-, j0, j1, j2, j3, j4, jf⟩ := b4
  go_wp2
  refine bodyPost_ret (v := .tuple #[.agg #[.int .i64 s, .slice A n cap, .int .i64 du, .int .i64 k, .bool false], .int .i64 0]) (by simp only [results, Try.results20]; go_simp) rfl ⟨rfl, ?_⟩
  repeat' (first | (with_reducible exact hB) | (with_reducible refine Below.setCell ?_ ?_ _) | (with_reducible refine Below.alloc ?_ ?_ _) | (with_reducible refine Below.drew ?_) | (simp; done) | omega | (simp; omega))

set_option maxRecDepth 100000 in
set_option maxHeartbeats 1600000 in
theorem trunc_low (s : Int) (A : Option Addr) (n cap : Nat) (du le : Int) (k : Int) (w : World) (h : okB s n du le = true) (hk : k < 0) :
    Calls Try.prog 21 #[.agg #[.int .i64 s, .slice A n cap, .int .i64 du, .int .i64 le, .bool false], .int .i64 k] w fun e w' => e = .returned (.tuple #[.agg #[.int .i64 0, .slice none 0 0, .int .i64 0, .int .i64 0, .bool false], .int .i64 2]) ∧ Below w.heap.size w w' := by
  have C := Lib.hid (fun W : World => ready_ok s A n cap du le W h)
  obtain ⟨h1, h2, h3, h4, h5, h6, h7⟩ := okB_iff.1 h
  clear h
  go_enter Try.func21, Try.ntmps21
  go_wp2_with fail
  refine (C.out _).mono ?_
  rintro e W ⟨rfl, hb⟩
  clear C
  have b2 := ((Bx.new w _ _ _ _ _).alloc _).keep hb
  have b4 := (Bx.new1 w _ _ _ _ _ _).keep hb
  have hB := (two_ _ _).trans (hb.mono (two_ (w := w) _ _).size)
  clear hb
  have hz0 := b2.lt
  have hz1 := b4.lt
  obtain ⟨-, k0, k1, k2, k3, k4, kf⟩ := b2
  obtain ⟨-, j0, j1, j2, j3, j4, jf⟩ := b4
  go_wp2
  refine bodyPost_ret (v := .tuple #[.agg #[.int .i64 0, .slice none 0 0, .int .i64 0, .int .i64 0, .bool false], .int .i64 2]) (by simp only [results, Try.results21]; go_simp) rfl ⟨rfl, ?_⟩
  repeat' (first | (with_reducible exact hB) | (with_reducible refine Below.setCell ?_ ?_ _) | (with_reducible refine Below.alloc ?_ ?_ _) | (with_reducible refine Below.drew ?_) | (simp; done) | omega | (simp; omega))

set_option maxRecDepth 100000 in
set_option maxHeartbeats 1600000 in
theorem trunc_high (s : Int) (A : Option Addr) (n cap : Nat) (du le : Int) (k : Int) (w : World) (h : okB s n du le = true) (hk : (n : Int) < k) :
    Calls Try.prog 21 #[.agg #[.int .i64 s, .slice A n cap, .int .i64 du, .int .i64 le, .bool false], .int .i64 k] w fun e w' => e = .returned (.tuple #[.agg #[.int .i64 0, .slice none 0 0, .int .i64 0, .int .i64 0, .bool false], .int .i64 2]) ∧ Below w.heap.size w w' := by
  have C := Lib.hid (fun W : World => ready_ok s A n cap du le W h)
  obtain ⟨h1, h2, h3, h4, h5, h6, h7⟩ := okB_iff.1 h
  clear h
  go_enter Try.func21, Try.ntmps21
  go_wp2_with fail
  refine (C.out _).mono ?_
  rintro e W ⟨rfl, hb⟩
  clear C
  have b2 := ((Bx.new w _ _ _ _ _).alloc _).keep hb
  have b4 := (Bx.new1 w _ _ _ _ _ _).keep hb
  have hB := (two_ _ _).trans (hb.mono (two_ (w := w) _ _).size)
  clear hb
  have hz0 := b2.lt
  have hz1 := b4.lt
  obtain ⟨-, k0, k1, k2, k3, k4, kf⟩ := b2
  obtain ⟨-, j0, j1, j2, j3, j4, jf⟩ := b4
  go_wp2
  refine bodyPost_ret (v := .tuple #[.agg #[.int .i64 0, .slice none 0 0, .int .i64 0, .int .i64 0, .bool false], .int .i64 2]) (by simp only [results, Try.results21]; go_simp) rfl ⟨rfl, ?_⟩
  repeat' (first | (with_reducible exact hB) | (with_reducible refine Below.setCell ?_ ?_ _) | (with_reducible refine Below.alloc ?_ ?_ _) | (with_reducible refine Below.drew ?_) | (simp; done) | omega | (simp; omega))
end Go.Proofs.Ytdchodjfgeglgaa
