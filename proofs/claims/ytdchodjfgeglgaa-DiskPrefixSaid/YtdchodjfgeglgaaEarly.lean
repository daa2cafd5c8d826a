/- Contracts: Append, Sync, Truncate and Arm where ready ends them. -/
import Derived.Test.YtdchodjfgeglgaaReady
namespace Go.Proofs.Ytdchodjfgeglgaa
open Go.ChangeShapes Go.WideShapes Go.ChangeAt Go.RowKit

set_option maxRecDepth 100000 in
set_option maxHeartbeats 1600000 in
theorem append_bad (s : Int) (A : Option Addr) (n cap : Nat) (du le : Int) (dn : Bool) (B : Option Addr) (m cb : Nat) (w : World) (h : okB s n du le = false) :
    Calls Try.prog 18 #[.agg #[.int .i64 s, .slice A n cap, .int .i64 du, .int .i64 le, .bool dn], .slice B m cb] w fun e w' => e = .returned (.tuple #[.agg #[.int .i64 0, .slice none 0 0, .int .i64 0, .int .i64 0, .bool false], .int .i64 2]) ∧ Below w.heap.size w w' := by
  have C := Lib.hid (fun W : World => ready_bad s A n cap du le dn W h)
  clear h
  go_enter Try.func18, Try.ntmps18
  go_wp2_with fail
  refine (C.out _).mono ?_
  rintro e W ⟨rfl, hb⟩
  clear C
  have b2 := ((Bx.new w _ _ _ _ _).alloc _).keep hb
  have b4 := (Bx.new1 w _ _ _ _ _ _).keep hb
  have hB := (two_ _ _).trans (hb.mono (two_ (w := w) _ _).size)
  clear hb
  have hz0 := b2.lt
  have hz1 := b4.lt
  obtain ⟨-, k0, k1, k2, k3, k4, kf⟩ := b2
  obtain ⟨-, j0, j1, j2, j3, j4, jf⟩ := b4
  go_wp2
  refine bodyPost_ret (v := .tuple #[.agg #[.int .i64 0, .slice none 0 0, .int .i64 0, .int .i64 0, .bool false], .int .i64 2]) (by simp only [results, Try.results18]; go_simp) rfl ⟨rfl, ?_⟩
  repeat' (first | (with_reducible exact hB) | (with_reducible refine Below.setCell ?_ ?_ _) | (with_reducible refine Below.alloc ?_ ?_ _) | (with_reducible refine Below.drew ?_) | (simp; done) | omega | (simp; omega))

set_option maxRecDepth 100000 in
set_option maxHeartbeats 1600000 in
theorem append_down (s : Int) (A : Option Addr) (n cap : Nat) (du le : Int) (B : Option Addr) (m cb : Nat) (w : World) (h : okB s n du le = true) :
    Calls Try.prog 18 #[.agg #[.int .i64 s, .slice A n cap, .int .i64 du, .int .i64 le, .bool true], .slice B m cb] w fun e w' => e = .returned (.tuple #[.agg #[.int .i64 s, .slice A n cap, .int .i64 du, .int .i64 le, .bool true], .int .i64 19]) ∧ Below w.heap.size w w' := by
  have C := Lib.hid (fun W : World => ready_down s A n cap du le W h)
  clear h
  go_enter Try.func18, Try.ntmps18
  go_wp2_with fail
  refine (C.out _).mono ?_
  rintro e W ⟨rfl, hb⟩
  clear C
  have b2 := ((Bx.new w _ _ _ _ _).alloc _).keep hb
  have b4 := (Bx.new1 w _ _ _ _ _ _).keep hb
  have hB := (two_ _ _).trans (hb.mono (two_ (w := w) _ _).size)
  clear hb
  have hz0 := b2.lt
  have hz1 := b4.lt
  obtain ⟨-, k0, k1, k2, k3, k4, kf⟩ := b2
  obtain ⟨-, j0, j1, j2, j3, j4, jf⟩ := b4
  go_wp2
  refine bodyPost_ret (v := .tuple #[.agg #[.int .i64 s, .slice A n cap, .int .i64 du, .int .i64 le, .bool true], .int .i64 19]) (by simp only [results, Try.results18]; go_simp) rfl ⟨rfl, ?_⟩
  repeat' (first | (with_reducible exact hB) | (with_reducible refine Below.setCell ?_ ?_ _) | (with_reducible refine Below.alloc ?_ ?_ _) | (with_reducible refine Below.drew ?_) | (simp; done) | omega | (simp; omega))

set_option maxRecDepth 100000 in
set_option maxHeartbeats 1600000 in
theorem sync_bad (s : Int) (A : Option Addr) (n cap : Nat) (du le : Int) (dn : Bool) (w : World) (h : okB s n du le = false) :
    Calls Try.prog 19 #[.agg #[.int .i64 s, .slice A n cap, .int .i64 du, .int .i64 le, .bool dn]] w fun e w' => e = .returned (.tuple #[.agg #[.int .i64 0, .slice none 0 0, .int .i64 0, .int .i64 0, .bool false], .int .i64 2]) ∧ Below w.heap.size w w' := by
  have C := Lib.hid (fun W : World => ready_bad s A n cap du le dn W h)
  clear h
  go_enter Try.func19, Try.ntmps19
  go_wp2_with fail
  refine (C.out _).mono ?_
  rintro e W ⟨rfl, hb⟩
  clear C
  have b2 := ((Bx.new w _ _ _ _ _).alloc _).keep hb
  have b4 := (Bx.new1 w _ _ _ _ _ _).keep hb
  have hB := (two_ _ _).trans (hb.mono (two_ (w := w) _ _).size)
  clear hb
  have hz0 := b2.lt
  have hz1 := b4.lt
  obtain ⟨-, k0, k1, k2, k3, k4, kf⟩ := b2
  obtain ⟨-, j0, j1, j2, j3, j4, jf⟩ := b4
  go_wp2
  refine bodyPost_ret (v := .tuple #[.agg #[.int .i64 0, .slice none 0 0, .int .i64 0, .int .i64 0, .bool false], .int .i64 2]) (by simp only [results, Try.results19]; go_simp) rfl ⟨rfl, ?_⟩
  repeat' (first | (with_reducible exact hB) | (with_reducible refine Below.setCell ?_ ?_ _) | (with_reducible refine Below.alloc ?_ ?_ _) | (with_reducible refine Below.drew ?_) | (simp; done) | omega | (simp; omega))

set_option maxRecDepth 100000 in
set_option maxHeartbeats 1600000 in
theorem sync_down (s : Int) (A : Option Addr) (n cap : Nat) (du le : Int) (w : World) (h : okB s n du le = true) :
    Calls Try.prog 19 #[.agg #[.int .i64 s, .slice A n cap, .int .i64 du, .int .i64 le, .bool true]] w fun e w' => e = .returned (.tuple #[.agg #[.int .i64 s, .slice A n cap, .int .i64 du, .int .i64 le, .bool true], .int .i64 19]) ∧ Below w.heap.size w w' := by
  have C := Lib.hid (fun W : World => ready_down s A n cap du le W h)
  clear h
  go_enter Try.func19, Try.ntmps19
  go_wp2_with fail
  refine (C.out _).mono ?_
  rintro e W ⟨rfl, hb⟩
  clear C
  have b2 := ((Bx.new w _ _ _ _ _).alloc _).keep hb
  have b4 := (Bx.new1 w _ _ _ _ _ _).keep hb
  have hB := (two_ _ _).trans (hb.mono (two_ (w := w) _ _).size)
  clear hb
  have hz0 := b2.lt
  have hz1 := b4.lt
  obtain ⟨-, k0, k1, k2, k3, k4, kf⟩ := b2
  obtain ⟨-, j0, j1, j2, j3, j4, jf⟩ := b4
  go_wp2
  refine bodyPost_ret (v := .tuple #[.agg #[.int .i64 s, .slice A n cap, .int .i64 du, .int .i64 le, .bool true], .int .i64 19]) (by simp only [results, Try.results19]; go_simp) rfl ⟨rfl, ?_⟩
  repeat' (first | (with_reducible exact hB) | (with_reducible refine Below.setCell ?_ ?_ _) | (with_reducible refine Below.alloc ?_ ?_ _) | (with_reducible refine Below.drew ?_) | (simp; done) | omega | (simp; omega))

set_option maxRecDepth 100000 in
set_option maxHeartbeats 1600000 in
theorem arm_bad (s : Int) (A : Option Addr) (n cap : Nat) (du le : Int) (dn : Bool) (k : Int) (w : World) (h : okB s n du le = false) :
    Calls Try.prog 20 #[.agg #[.int .i64 s, .slice A n cap, .int .i64 du, .int .i64 le, .bool dn], .int .i64 k] w fun e w' => e = .returned (.tuple #[.agg #[.int .i64 0, .slice none 0 0, .int .i64 0, .int .i64 0, .bool false], .int .i64 2]) ∧ Below w.heap.size w w' := by
  have C := Lib.hid (fun W : World => ready_bad s A n cap du le dn W h)
  clear h
  go_enter Try.func20, Try.ntmps20
  go_wp2_with fail
  refine (C.out _).mono ?_
  rintro e W ⟨rfl, hb⟩
  clear C
  have b2 := ((Bx.new w _ _ _ _ _).alloc _).keep hb
  have b4 := (Bx.new1 w _ _ _ _ _ _).keep hb
  have hB := (two_ _ _).trans (hb.mono (two_ (w := w) _ _).size)
  clear hb
  have hz0 := b2.lt
  have hz1 := b4.lt
  obtain ⟨-, k0, k1, k2, k3, k4, kf⟩ := b2
  obtain ⟨-, j0, j1, j2, j3, j4, jf⟩ := b4
  go_wp2
  refine bodyPost_ret (v := .tuple #[.agg #[.int .i64 0, .slice none 0 0, .int .i64 0, .int .i64 0, .bool false], .int .i64 2]) (by simp only [results, Try.results20]; go_simp) rfl ⟨rfl, ?_⟩
  repeat' (first | (with_reducible exact hB) | (with_reducible refine Below.setCell ?_ ?_ _) | (with_reducible refine Below.alloc ?_ ?_ _) | (with_reducible refine Below.drew ?_) | (simp; done) | omega | (simp; omega))

set_option maxRecDepth 100000 in
set_option maxHeartbeats 1600000 in
theorem arm_down (s : Int) (A : Option Addr) (n cap : Nat) (du le : Int) (k : Int) (w : World) (h : okB s n du le = true) :
    Calls Try.prog 20 #[.agg #[.int .i64 s, .slice A n cap, .int .i64 du, .int .i64 le, .bool true], .int .i64 k] w fun e w' => e = .returned (.tuple #[.agg #[.int .i64 s, .slice A n cap, .int .i64 du, .int .i64 le, .bool true], .int .i64 19]) ∧ Below w.heap.size w w' := by
  have C := Lib.hid (fun W : World => ready_down s A n cap du le W h)
  clear h
  go_enter Try.func20, Try.ntmps20
  go_wp2_with fail
  refine (C.out _).mono ?_
  rintro e W ⟨rfl, hb⟩
  clear C
  have b2 := ((Bx.new w _ _ _ _ _).alloc _).keep hb
  have b4 := (Bx.new1 w _ _ _ _ _ _).keep hb
  have hB := (two_ _ _).trans (hb.mono (two_ (w := w) _ _).size)
  clear hb
  have hz0 := b2.lt
  have hz1 := b4.lt
  obtain ⟨-, k0, k1, k2, k3, k4, kf⟩ := b2
  obtain ⟨-, j0, j1, j2, j3, j4, jf⟩ := b4
  go_wp2
  refine bodyPost_ret (v := .tuple #[.agg #[.int .i64 s, .slice A n cap, .int .i64 du, .int .i64 le, .bool true], .int .i64 19]) (by simp only [results, Try.results20]; go_simp) rfl ⟨rfl, ?_⟩
  repeat' (first | (with_reducible exact hB) | (with_reducible refine Below.setCell ?_ ?_ _) | (with_reducible refine Below.alloc ?_ ?_ _) | (with_reducible refine Below.drew ?_) | (simp; done) | omega | (simp; omega))

set_option maxRecDepth 100000 in
set_option maxHeartbeats 1600000 in
theorem trunc_bad (s : Int) (A : Option Addr) (n cap : Nat) (du le : Int) (dn : Bool) (k : Int) (w : World) (h : okB s n du le = false) :
    Calls Try.prog 21 #[.agg #[.int .i64 s, .slice A n cap, .int .i64 du, .int .i64 le, .bool dn], .int .i64 k] w fun e w' => e = .returned (.tuple #[.agg #[.int .i64 0, .slice none 0 0, .int .i64 0, .int .i64 0, .bool false], .int .i64 2]) ∧ Below w.heap.size w w' := by
  have C := Lib.hid (fun W : World => ready_bad s A n cap du le dn W h)
  clear h
  go_enter Try.func21, Try.ntmps21
  go_wp2_with fail
  refine (C.out _).mono ?_
  rintro e W ⟨rfl, hb⟩
  clear C
  have b2 := ((Bx.new w _ _ _ _ _).alloc _).keep hb
  have b4 := (Bx.new1 w _ _ _ _ _ _).keep hb
  have hB := (two_ _ _).trans (hb.mono (two_ (w := w) _ _).size)
  clear hb
  have hz0 := b2.lt
  have hz1 := b4.lt
  obtain ⟨-, k0, k1, k2, k3, k4, kf⟩ := b2
  obtain ⟨-, j0, j1, j2, j3, j4, jf⟩ := b4
  go_wp2
  refine bodyPost_ret (v := .tuple #[.agg #[.int .i64 0, .slice none 0 0, .int .i64 0, .int .i64 0, .bool false], .int .i64 2]) (by simp only [results, Try.results21]; go_simp) rfl ⟨rfl, ?_⟩
  repeat' (first | (with_reducible exact hB) | (with_reducible refine Below.setCell ?_ ?_ _) | (with_reducible refine Below.alloc ?_ ?_ _) | (with_reducible refine Below.drew ?_) | (simp; done) | omega | (simp; omega))

set_option maxRecDepth 100000 in
set_option maxHeartbeats 1600000 in
theorem trunc_down (s : Int) (A : Option Addr) (n cap : Nat) (du le : Int) (k : Int) (w : World) (h : okB s n du le = true) :
    Calls Try.prog 21 #[.agg #[.int .i64 s, .slice A n cap, .int .i64 du, .int .i64 le, .bool true], .int .i64 k] w fun e w' => e = .returned (.tuple #[.agg #[.int .i64 s, .slice A n cap, .int .i64 du, .int .i64 le, .bool true], .int .i64 19]) ∧ Below w.heap.size w w' := by
  have C := Lib.hid (fun W : World => ready_down s A n cap du le W h)
  clear h
  go_enter Try.func21, Try.ntmps21
  go_wp2_with fail
  refine (C.out _).mono ?_
  rintro e W ⟨rfl, hb⟩
  clear C
  have b2 := ((Bx.new w _ _ _ _ _).alloc _).keep hb
  have b4 := (Bx.new1 w _ _ _ _ _ _).keep hb
  have hB := (two_ _ _).trans (hb.mono (two_ (w := w) _ _).size)
  clear hb
  have hz0 := b2.lt
  have hz1 := b4.lt
  obtain ⟨-, k0, k1, k2, k3, k4, kf⟩ := b2
  obtain ⟨-, j0, j1, j2, j3, j4, jf⟩ := b4
  go_wp2
  refine bodyPost_ret (v := .tuple #[.agg #[.int .i64 s, .slice A n cap, .int .i64 du, .int .i64 le, .bool true], .int .i64 19]) (by simp only [results, Try.results21]; go_simp) rfl ⟨rfl, ?_⟩
  repeat' (first | (with_reducible exact hB) | (with_reducible refine Below.setCell ?_ ?_ _) | (with_reducible refine Below.alloc ?_ ?_ _) | (with_reducible refine Below.drew ?_) | (simp; done) | omega | (simp; omega))
end Go.Proofs.Ytdchodjfgeglgaa
