/- Contracts of the reference's functions: Sync, Arm. -/
import Derived.Test.YtdchodjfgeglgaaReady
import Derived.Test.YtdchodjfgeglgaaOwn
import Derived.Deep.Cut
namespace Go.Proofs.Ytdchodjfgeglgaa
open Go.ChangeShapes Go.WideShapes Go.ChangeAt Go.RowKit

set_option maxRecDepth 100000 in
set_option maxHeartbeats 1600000 in
theorem rappend_bad (s : Int) (A : Option Addr) (n cap : Nat) (du le : Int) (dn : Bool) (B : Option Addr) (m cb : Nat) (w : World) (h : okB s n du le = false) :
    Calls Try.prog 26 #[.agg #[.int .i64 s, .slice A n cap, .int .i64 du, .int .i64 le, .bool dn], .slice B m cb] w fun e w' => e = .returned (.tuple #[.agg #[.int .i64 0, .slice none 0 0, .int .i64 0, .int .i64 0, .bool false], .int .i64 2]) ∧ Below w.heap.size w w' := by
  have C := Lib.hid (fun W : World => rready_bad s A n cap du le dn W h)
  clear h
  go_enter Try.func26, Try.ntmps26
  go_wp2_with fail
  refine (C.out _).mono ?_
  rintro e W ⟨rfl, hb⟩
  clear C
  have b2 := ((Bx.new w _ _ _ _ _).alloc _).keep hb
  have b4 := (Bx.new1 w _ _ _ _ _ _).keep hb
  have hB := (two_ _ _).trans (hb.mono (two_ (w := w) _ _).size)
  clear hb
  have hz0 := b2.lt
  have hz1 := b4.lt
  obtain ⟨-, k0, k1, k2, k3, k4, kf⟩ := b2
  obtain ⟨-, j0, j1, j2, j3, j4, jf⟩ := b4
  go_upto_region 2 with fail
  have c2 := Bx.store ⟨hz0, k0, k1, k2, k3, k4, kf⟩ (.int .i64 0) (.slice none 0 0) (.int .i64 0) (.int .i64 0) (.bool false)
  have c4 := (Bx.far (Bx.far (Bx.far (Bx.far (Bx.far (⟨hz1, j0, j1, j2, j3, j4, jf⟩ : Bx W (w.heap.size + 1) _ _ _ _ _) ⟨w.heap.size, 0, none⟩ (.int .i64 0) (by simp)) ⟨w.heap.size, 1, none⟩ (.slice none 0 0) (by simp)) ⟨w.heap.size, 2, none⟩ (.int .i64 0) (by simp)) ⟨w.heap.size, 3, none⟩ (.int .i64 0) (by simp)) ⟨w.heap.size, 4, none⟩ (.bool false) (by simp))
  have hB1 : Below w.heap.size w (((((W.setCell ⟨w.heap.size, 0, none⟩ (.int .i64 0)).setCell ⟨w.heap.size, 1, none⟩ (.slice none 0 0)).setCell ⟨w.heap.size, 2, none⟩ (.int .i64 0)).setCell ⟨w.heap.size, 3, none⟩ (.int .i64 0)).setCell ⟨w.heap.size, 4, none⟩ (.bool false)) := by (repeat' (first | (with_reducible exact hB) | (with_reducible refine Below.setCell ?_ ?_ _) | (with_reducible refine Below.alloc ?_ ?_ _) | (with_reducible refine Below.drew ?_) | (simp; done) | omega | (simp; omega)))
  generalize (((((W.setCell ⟨w.heap.size, 0, none⟩ (.int .i64 0)).setCell ⟨w.heap.size, 1, none⟩ (.slice none 0 0)).setCell ⟨w.heap.size, 2, none⟩ (.int .i64 0)).setCell ⟨w.heap.size, 3, none⟩ (.int .i64 0)).setCell ⟨w.heap.size, 4, none⟩ (.bool false)) = W1 at c2 c4 hB1 ⊢
  clear hB hz0 hz1 k0 k1 k2 k3 k4 kf j0 j1 j2 j3 j4 jf
  have hB := hB1
  clear hB1
  have hz0 := c2.lt
  have hz1 := c4.lt
  obtain ⟨-, k0, k1, k2, k3, k4, kf⟩ := c2
  obtain ⟨-, j0, j1, j2, j3, j4, jf⟩ := c4
  go_wp2
  refine bodyPost_ret (v := .tuple #[.agg #[.int .i64 0, .slice none 0 0, .int .i64 0, .int .i64 0, .bool false], .int .i64 2]) (by simp only [results, Try.results26]; go_simp) rfl ⟨rfl, ?_⟩
  repeat' (first | (with_reducible exact hB) | (with_reducible refine Below.setCell ?_ ?_ _) | (with_reducible refine Below.alloc ?_ ?_ _) | (with_reducible refine Below.drew ?_) | (simp; done) | omega | (simp; omega))

set_option maxRecDepth 100000 in
set_option maxHeartbeats 1600000 in
theorem rappend_down (s : Int) (A : Option Addr) (n cap : Nat) (du le : Int) (B : Option Addr) (m cb : Nat) (w : World) (h : okB s n du le = true) :
    Calls Try.prog 26 #[.agg #[.int .i64 s, .slice A n cap, .int .i64 du, .int .i64 le, .bool true], .slice B m cb] w fun e w' => e = .returned (.tuple #[.agg #[.int .i64 s, .slice A n cap, .int .i64 du, .int .i64 le, .bool true], .int .i64 19]) ∧ Below w.heap.size w w' := by
  have C := Lib.hid (fun W : World => rready_down s A n cap du le W h)
  clear h
  go_enter Try.func26, Try.ntmps26
  go_wp2_with fail
  refine (C.out _).mono ?_
  rintro e W ⟨rfl, hb⟩
  clear C
  have b2 := ((Bx.new w _ _ _ _ _).alloc _).keep hb
  have b4 := (Bx.new1 w _ _ _ _ _ _).keep hb
  have hB := (two_ _ _).trans (hb.mono (two_ (w := w) _ _).size)
  clear hb
  have hz0 := b2.lt
  have hz1 := b4.lt
  obtain ⟨-, k0, k1, k2, k3, k4, kf⟩ := b2
  obtain ⟨-, j0, j1, j2, j3, j4, jf⟩ := b4
  go_upto_region 2 with fail
  have c2 := Bx.store ⟨hz0, k0, k1, k2, k3, k4, kf⟩ (.int .i64 s) (.slice A n cap) (.int .i64 du) (.int .i64 le) (.bool true)
  have c4 := (Bx.far (Bx.far (Bx.far (Bx.far (Bx.far (⟨hz1, j0, j1, j2, j3, j4, jf⟩ : Bx W (w.heap.size + 1) _ _ _ _ _) ⟨w.heap.size, 0, none⟩ (.int .i64 s) (by simp)) ⟨w.heap.size, 1, none⟩ (.slice A n cap) (by simp)) ⟨w.heap.size, 2, none⟩ (.int .i64 du) (by simp)) ⟨w.heap.size, 3, none⟩ (.int .i64 le) (by simp)) ⟨w.heap.size, 4, none⟩ (.bool true) (by simp))
  have hB1 : Below w.heap.size w (((((W.setCell ⟨w.heap.size, 0, none⟩ (.int .i64 s)).setCell ⟨w.heap.size, 1, none⟩ (.slice A n cap)).setCell ⟨w.heap.size, 2, none⟩ (.int .i64 du)).setCell ⟨w.heap.size, 3, none⟩ (.int .i64 le)).setCell ⟨w.heap.size, 4, none⟩ (.bool true)) := by (repeat' (first | (with_reducible exact hB) | (with_reducible refine Below.setCell ?_ ?_ _) | (with_reducible refine Below.alloc ?_ ?_ _) | (with_reducible refine Below.drew ?_) | (simp; done) | omega | (simp; omega)))
  generalize (((((W.setCell ⟨w.heap.size, 0, none⟩ (.int .i64 s)).setCell ⟨w.heap.size, 1, none⟩ (.slice A n cap)).setCell ⟨w.heap.size, 2, none⟩ (.int .i64 du)).setCell ⟨w.heap.size, 3, none⟩ (.int .i64 le)).setCell ⟨w.heap.size, 4, none⟩ (.bool true)) = W1 at c2 c4 hB1 ⊢
  clear hB hz0 hz1 k0 k1 k2 k3 k4 kf j0 j1 j2 j3 j4 jf
  have hB := hB1
  clear hB1
  have hz0 := c2.lt
  have hz1 := c4.lt
  obtain ⟨-, k0, k1, k2, k3, k4, kf⟩ := c2
  obtain ⟨-, j0, j1, j2, j3, j4, jf⟩ := c4
  go_wp2
  refine bodyPost_ret (v := .tuple #[.agg #[.int .i64 s, .slice A n cap, .int .i64 du, .int .i64 le, .bool true], .int .i64 19]) (by simp only [results, Try.results26]; go_simp) rfl ⟨rfl, ?_⟩
  repeat' (first | (with_reducible exact hB) | (with_reducible refine Below.setCell ?_ ?_ _) | (with_reducible refine Below.alloc ?_ ?_ _) | (with_reducible refine Below.drew ?_) | (simp; done) | omega | (simp; omega))

set_option maxRecDepth 100000 in
set_option maxHeartbeats 1600000 in
theorem rsync_bad (s : Int) (A : Option Addr) (n cap : Nat) (du le : Int) (dn : Bool) (w : World) (h : okB s n du le = false) :
    Calls Try.prog 22 #[.agg #[.int .i64 s, .slice A n cap, .int .i64 du, .int .i64 le, .bool dn]] w fun e w' => e = .returned (.tuple #[.agg #[.int .i64 0, .slice none 0 0, .int .i64 0, .int .i64 0, .bool false], .int .i64 2]) ∧ Below w.heap.size w w' := by
  have C := Lib.hid (fun W : World => rready_bad s A n cap du le dn W h)
  clear h
  go_enter Try.func22, Try.ntmps22
  go_wp2_with fail
  refine (C.out _).mono ?_
  rintro e W ⟨rfl, hb⟩
  clear C
  have b2 := ((Bx.new w _ _ _ _ _).alloc _).keep hb
  have b4 := (Bx.new1 w _ _ _ _ _ _).keep hb
  have hB := (two_ _ _).trans (hb.mono (two_ (w := w) _ _).size)
  clear hb
  have hz0 := b2.lt
  have hz1 := b4.lt
  obtain ⟨-, k0, k1, k2, k3, k4, kf⟩ := b2
  obtain ⟨-, j0, j1, j2, j3, j4, jf⟩ := b4
  go_upto_region 2 with fail
  have c2 := Bx.store ⟨hz0, k0, k1, k2, k3, k4, kf⟩ (.int .i64 0) (.slice none 0 0) (.int .i64 0) (.int .i64 0) (.bool false)
  have c4 := (Bx.far (Bx.far (Bx.far (Bx.far (Bx.far (⟨hz1, j0, j1, j2, j3, j4, jf⟩ : Bx W (w.heap.size + 1) _ _ _ _ _) ⟨w.heap.size, 0, none⟩ (.int .i64 0) (by simp)) ⟨w.heap.size, 1, none⟩ (.slice none 0 0) (by simp)) ⟨w.heap.size, 2, none⟩ (.int .i64 0) (by simp)) ⟨w.heap.size, 3, none⟩ (.int .i64 0) (by simp)) ⟨w.heap.size, 4, none⟩ (.bool false) (by simp))
  have hB1 : Below w.heap.size w (((((W.setCell ⟨w.heap.size, 0, none⟩ (.int .i64 0)).setCell ⟨w.heap.size, 1, none⟩ (.slice none 0 0)).setCell ⟨w.heap.size, 2, none⟩ (.int .i64 0)).setCell ⟨w.heap.size, 3, none⟩ (.int .i64 0)).setCell ⟨w.heap.size, 4, none⟩ (.bool false)) := by (repeat' (first | (with_reducible exact hB) | (with_reducible refine Below.setCell ?_ ?_ _) | (with_reducible refine Below.alloc ?_ ?_ _) | (with_reducible refine Below.drew ?_) | (simp; done) | omega | (simp; omega)))
  generalize (((((W.setCell ⟨w.heap.size, 0, none⟩ (.int .i64 0)).setCell ⟨w.heap.size, 1, none⟩ (.slice none 0 0)).setCell ⟨w.heap.size, 2, none⟩ (.int .i64 0)).setCell ⟨w.heap.size, 3, none⟩ (.int .i64 0)).setCell ⟨w.heap.size, 4, none⟩ (.bool false)) = W1 at c2 c4 hB1 ⊢
  clear hB hz0 hz1 k0 k1 k2 k3 k4 kf j0 j1 j2 j3 j4 jf
  have hB := hB1
  clear hB1
  have hz0 := c2.lt
  have hz1 := c4.lt
  obtain ⟨-, k0, k1, k2, k3, k4, kf⟩ := c2
  obtain ⟨-, j0, j1, j2, j3, j4, jf⟩ := c4
  go_wp2
  refine bodyPost_ret (v := .tuple #[.agg #[.int .i64 0, .slice none 0 0, .int .i64 0, .int .i64 0, .bool false], .int .i64 2]) (by simp only [results, Try.results22]; go_simp) rfl ⟨rfl, ?_⟩
  repeat' (first | (with_reducible exact hB) | (with_reducible refine Below.setCell ?_ ?_ _) | (with_reducible refine Below.alloc ?_ ?_ _) | (with_reducible refine Below.drew ?_) | (simp; done) | omega | (simp; omega))

set_option maxRecDepth 100000 in
set_option maxHeartbeats 1600000 in
theorem rsync_down (s : Int) (A : Option Addr) (n cap : Nat) (du le : Int) (w : World) (h : okB s n du le = true) :
    Calls Try.prog 22 #[.agg #[.int .i64 s, .slice A n cap, .int .i64 du, .int .i64 le, .bool true]] w fun e w' => e = .returned (.tuple #[.agg #[.int .i64 s, .slice A n cap, .int .i64 du, .int .i64 le, .bool true], .int .i64 19]) ∧ Below w.heap.size w w' := by
  have C := Lib.hid (fun W : World => rready_down s A n cap du le W h)
  clear h
  go_enter Try.func22, Try.ntmps22
  go_wp2_with fail
  refine (C.out _).mono ?_
  rintro e W ⟨rfl, hb⟩
  clear C
  have b2 := ((Bx.new w _ _ _ _ _).alloc _).keep hb
  have b4 := (Bx.new1 w _ _ _ _ _ _).keep hb
  have hB := (two_ _ _).trans (hb.mono (two_ (w := w) _ _).size)
  clear hb
  have hz0 := b2.lt
  have hz1 := b4.lt
  obtain ⟨-, k0, k1, k2, k3, k4, kf⟩ := b2
  obtain ⟨-, j0, j1, j2, j3, j4, jf⟩ := b4
  go_upto_region 2 with fail
  have c2 := Bx.store ⟨hz0, k0, k1, k2, k3, k4, kf⟩ (.int .i64 s) (.slice A n cap) (.int .i64 du) (.int .i64 le) (.bool true)
  have c4 := (Bx.far (Bx.far (Bx.far (Bx.far (Bx.far (⟨hz1, j0, j1, j2, j3, j4, jf⟩ : Bx W (w.heap.size + 1) _ _ _ _ _) ⟨w.heap.size, 0, none⟩ (.int .i64 s) (by simp)) ⟨w.heap.size, 1, none⟩ (.slice A n cap) (by simp)) ⟨w.heap.size, 2, none⟩ (.int .i64 du) (by simp)) ⟨w.heap.size, 3, none⟩ (.int .i64 le) (by simp)) ⟨w.heap.size, 4, none⟩ (.bool true) (by simp))
  have hB1 : Below w.heap.size w (((((W.setCell ⟨w.heap.size, 0, none⟩ (.int .i64 s)).setCell ⟨w.heap.size, 1, none⟩ (.slice A n cap)).setCell ⟨w.heap.size, 2, none⟩ (.int .i64 du)).setCell ⟨w.heap.size, 3, none⟩ (.int .i64 le)).setCell ⟨w.heap.size, 4, none⟩ (.bool true)) := by (repeat' (first | (with_reducible exact hB) | (with_reducible refine Below.setCell ?_ ?_ _) | (with_reducible refine Below.alloc ?_ ?_ _) | (with_reducible refine Below.drew ?_) | (simp; done) | omega | (simp; omega)))
  generalize (((((W.setCell ⟨w.heap.size, 0, none⟩ (.int .i64 s)).setCell ⟨w.heap.size, 1, none⟩ (.slice A n cap)).setCell ⟨w.heap.size, 2, none⟩ (.int .i64 du)).setCell ⟨w.heap.size, 3, none⟩ (.int .i64 le)).setCell ⟨w.heap.size, 4, none⟩ (.bool true)) = W1 at c2 c4 hB1 ⊢
  clear hB hz0 hz1 k0 k1 k2 k3 k4 kf j0 j1 j2 j3 j4 jf
  have hB := hB1
  clear hB1
  have hz0 := c2.lt
  have hz1 := c4.lt
  obtain ⟨-, k0, k1, k2, k3, k4, kf⟩ := c2
  obtain ⟨-, j0, j1, j2, j3, j4, jf⟩ := c4
  go_wp2
  refine bodyPost_ret (v := .tuple #[.agg #[.int .i64 s, .slice A n cap, .int .i64 du, .int .i64 le, .bool true], .int .i64 19]) (by simp only [results, Try.results22]; go_simp) rfl ⟨rfl, ?_⟩
  repeat' (first | (with_reducible exact hB) | (with_reducible refine Below.setCell ?_ ?_ _) | (with_reducible refine Below.alloc ?_ ?_ _) | (with_reducible refine Below.drew ?_) | (simp; done) | omega | (simp; omega))

set_option maxRecDepth 100000 in
set_option maxHeartbeats 1600000 in
theorem rarm_bad (s : Int) (A : Option Addr) (n cap : Nat) (du le : Int) (dn : Bool) (k : Int) (w : World) (h : okB s n du le = false) :
    Calls Try.prog 24 #[.agg #[.int .i64 s, .slice A n cap, .int .i64 du, .int .i64 le, .bool dn], .int .i64 k] w fun e w' => e = .returned (.tuple #[.agg #[.int .i64 0, .slice none 0 0, .int .i64 0, .int .i64 0, .bool false], .int .i64 2]) ∧ Below w.heap.size w w' := by
  have C := Lib.hid (fun W : World => rready_bad s A n cap du le dn W h)
  clear h
  go_enter Try.func24, Try.ntmps24
  go_wp2_with fail
  refine (C.out _).mono ?_
  rintro e W ⟨rfl, hb⟩
  clear C
  have b2 := ((Bx.new w _ _ _ _ _).alloc _).keep hb
  have b4 := (Bx.new1 w _ _ _ _ _ _).keep hb
  have hB := (two_ _ _).trans (hb.mono (two_ (w := w) _ _).size)
  clear hb
  have hz0 := b2.lt
  have hz1 := b4.lt
  obtain ⟨-, k0, k1, k2, k3, k4, kf⟩ := b2
  obtain ⟨-, j0, j1, j2, j3, j4, jf⟩ := b4
  go_upto_region 2 with fail
  have c2 := Bx.store ⟨hz0, k0, k1, k2, k3, k4, kf⟩ (.int .i64 0) (.slice none 0 0) (.int .i64 0) (.int .i64 0) (.bool false)
  have c4 := (Bx.far (Bx.far (Bx.far (Bx.far (Bx.far (⟨hz1, j0, j1, j2, j3, j4, jf⟩ : Bx W (w.heap.size + 1) _ _ _ _ _) ⟨w.heap.size, 0, none⟩ (.int .i64 0) (by simp)) ⟨w.heap.size, 1, none⟩ (.slice none 0 0) (by simp)) ⟨w.heap.size, 2, none⟩ (.int .i64 0) (by simp)) ⟨w.heap.size, 3, none⟩ (.int .i64 0) (by simp)) ⟨w.heap.size, 4, none⟩ (.bool false) (by simp))
  have hB1 : Below w.heap.size w (((((W.setCell ⟨w.heap.size, 0, none⟩ (.int .i64 0)).setCell ⟨w.heap.size, 1, none⟩ (.slice none 0 0)).setCell ⟨w.heap.size, 2, none⟩ (.int .i64 0)).setCell ⟨w.heap.size, 3, none⟩ (.int .i64 0)).setCell ⟨w.heap.size, 4, none⟩ (.bool false)) := by (repeat' (first | (with_reducible exact hB) | (with_reducible refine Below.setCell ?_ ?_ _) | (with_reducible refine Below.alloc ?_ ?_ _) | (with_reducible refine Below.drew ?_) | (simp; done) | omega | (simp; omega)))
  generalize (((((W.setCell ⟨w.heap.size, 0, none⟩ (.int .i64 0)).setCell ⟨w.heap.size, 1, none⟩ (.slice none 0 0)).setCell ⟨w.heap.size, 2, none⟩ (.int .i64 0)).setCell ⟨w.heap.size, 3, none⟩ (.int .i64 0)).setCell ⟨w.heap.size, 4, none⟩ (.bool false)) = W1 at c2 c4 hB1 ⊢
  clear hB hz0 hz1 k0 k1 k2 k3 k4 kf j0 j1 j2 j3 j4 jf
  have hB := hB1
  clear hB1
  have hz0 := c2.lt
  have hz1 := c4.lt
  obtain ⟨-, k0, k1, k2, k3, k4, kf⟩ := c2
  obtain ⟨-, j0, j1, j2, j3, j4, jf⟩ := c4
  go_wp2
  refine bodyPost_ret (v := .tuple #[.agg #[.int .i64 0, .slice none 0 0, .int .i64 0, .int .i64 0, .bool false], .int .i64 2]) (by simp only [results, Try.results24]; go_simp) rfl ⟨rfl, ?_⟩
  repeat' (first | (with_reducible exact hB) | (with_reducible refine Below.setCell ?_ ?_ _) | (with_reducible refine Below.alloc ?_ ?_ _) | (with_reducible refine Below.drew ?_) | (simp; done) | omega | (simp; omega))

set_option maxRecDepth 100000 in
set_option maxHeartbeats 1600000 in
theorem rarm_down (s : Int) (A : Option Addr) (n cap : Nat) (du le : Int) (k : Int) (w : World) (h : okB s n du le = true) :
    Calls Try.prog 24 #[.agg #[.int .i64 s, .slice A n cap, .int .i64 du, .int .i64 le, .bool true], .int .i64 k] w fun e w' => e = .returned (.tuple #[.agg #[.int .i64 s, .slice A n cap, .int .i64 du, .int .i64 le, .bool true], .int .i64 19]) ∧ Below w.heap.size w w' := by
  have C := Lib.hid (fun W : World => rready_down s A n cap du le W h)
  clear h
  go_enter Try.func24, Try.ntmps24
  go_wp2_with fail
  refine (C.out _).mono ?_
  rintro e W ⟨rfl, hb⟩
  clear C
  have b2 := ((Bx.new w _ _ _ _ _).alloc _).keep hb
  have b4 := (Bx.new1 w _ _ _ _ _ _).keep hb
  have hB := (two_ _ _).trans (hb.mono (two_ (w := w) _ _).size)
  clear hb
  have hz0 := b2.lt
  have hz1 := b4.lt
  obtain ⟨-, k0, k1, k2, k3, k4, kf⟩ := b2
  obtain ⟨-, j0, j1, j2, j3, j4, jf⟩ := b4
  go_upto_region 2 with fail
  have c2 := Bx.store ⟨hz0, k0, k1, k2, k3, k4, kf⟩ (.int .i64 s) (.slice A n cap) (.int .i64 du) (.int .i64 le) (.bool true)
  have c4 := (Bx.far (Bx.far (Bx.far (Bx.far (Bx.far (⟨hz1, j0, j1, j2, j3, j4, jf⟩ : Bx W (w.heap.size + 1) _ _ _ _ _) ⟨w.heap.size, 0, none⟩ (.int .i64 s) (by simp)) ⟨w.heap.size, 1, none⟩ (.slice A n cap) (by simp)) ⟨w.heap.size, 2, none⟩ (.int .i64 du) (by simp)) ⟨w.heap.size, 3, none⟩ (.int .i64 le) (by simp)) ⟨w.heap.size, 4, none⟩ (.bool true) (by simp))
  have hB1 : Below w.heap.size w (((((W.setCell ⟨w.heap.size, 0, none⟩ (.int .i64 s)).setCell ⟨w.heap.size, 1, none⟩ (.slice A n cap)).setCell ⟨w.heap.size, 2, none⟩ (.int .i64 du)).setCell ⟨w.heap.size, 3, none⟩ (.int .i64 le)).setCell ⟨w.heap.size, 4, none⟩ (.bool true)) := by (repeat' (first | (with_reducible exact hB) | (with_reducible refine Below.setCell ?_ ?_ _) | (with_reducible refine Below.alloc ?_ ?_ _) | (with_reducible refine Below.drew ?_) | (simp; done) | omega | (simp; omega)))
  generalize (((((W.setCell ⟨w.heap.size, 0, none⟩ (.int .i64 s)).setCell ⟨w.heap.size, 1, none⟩ (.slice A n cap)).setCell ⟨w.heap.size, 2, none⟩ (.int .i64 du)).setCell ⟨w.heap.size, 3, none⟩ (.int .i64 le)).setCell ⟨w.heap.size, 4, none⟩ (.bool true)) = W1 at c2 c4 hB1 ⊢
  clear hB hz0 hz1 k0 k1 k2 k3 k4 kf j0 j1 j2 j3 j4 jf
  have hB := hB1
  clear hB1
  have hz0 := c2.lt
  have hz1 := c4.lt
  obtain ⟨-, k0, k1, k2, k3, k4, kf⟩ := c2
  obtain ⟨-, j0, j1, j2, j3, j4, jf⟩ := c4
  go_wp2
  refine bodyPost_ret (v := .tuple #[.agg #[.int .i64 s, .slice A n cap, .int .i64 du, .int .i64 le, .bool true], .int .i64 19]) (by simp only [results, Try.results24]; go_simp) rfl ⟨rfl, ?_⟩
  repeat' (first | (with_reducible exact hB) | (with_reducible refine Below.setCell ?_ ?_ _) | (with_reducible refine Below.alloc ?_ ?_ _) | (with_reducible refine Below.drew ?_) | (simp; done) | omega | (simp; omega))

set_option maxRecDepth 100000 in
set_option maxHeartbeats 1600000 in
theorem rtrunc_bad (s : Int) (A : Option Addr) (n cap : Nat) (du le : Int) (dn : Bool) (k : Int) (w : World) (h : okB s n du le = false) :
    Calls Try.prog 23 #[.agg #[.int .i64 s, .slice A n cap, .int .i64 du, .int .i64 le, .bool dn], .int .i64 k] w fun e w' => e = .returned (.tuple #[.agg #[.int .i64 0, .slice none 0 0, .int .i64 0, .int .i64 0, .bool false], .int .i64 2]) ∧ Below w.heap.size w w' := by
  have C := Lib.hid (fun W : World => rready_bad s A n cap du le dn W h)
  clear h
  go_enter Try.func23, Try.ntmps23
  go_wp2_with fail
  refine (C.out _).mono ?_
  rintro e W ⟨rfl, hb⟩
  clear C
  have b2 := ((Bx.new w _ _ _ _ _).alloc _).keep hb
  have b4 := (Bx.new1 w _ _ _ _ _ _).keep hb
  have hB := (two_ _ _).trans (hb.mono (two_ (w := w) _ _).size)
  clear hb
  have hz0 := b2.lt
  have hz1 := b4.lt
  obtain ⟨-, k0, k1, k2, k3, k4, kf⟩ := b2
  obtain ⟨-, j0, j1, j2, j3, j4, jf⟩ := b4
  go_upto_region 2 with fail
  have c2 := Bx.store ⟨hz0, k0, k1, k2, k3, k4, kf⟩ (.int .i64 0) (.slice none 0 0) (.int .i64 0) (.int .i64 0) (.bool false)
  have c4 := (Bx.far (Bx.far (Bx.far (Bx.far (Bx.far (⟨hz1, j0, j1, j2, j3, j4, jf⟩ : Bx W (w.heap.size + 1) _ _ _ _ _) ⟨w.heap.size, 0, none⟩ (.int .i64 0) (by simp)) ⟨w.heap.size, 1, none⟩ (.slice none 0 0) (by simp)) ⟨w.heap.size, 2, none⟩ (.int .i64 0) (by simp)) ⟨w.heap.size, 3, none⟩ (.int .i64 0) (by simp)) ⟨w.heap.size, 4, none⟩ (.bool false) (by simp))
  have hB1 : Below w.heap.size w (((((W.setCell ⟨w.heap.size, 0, none⟩ (.int .i64 0)).setCell ⟨w.heap.size, 1, none⟩ (.slice none 0 0)).setCell ⟨w.heap.size, 2, none⟩ (.int .i64 0)).setCell ⟨w.heap.size, 3, none⟩ (.int .i64 0)).setCell ⟨w.heap.size, 4, none⟩ (.bool false)) := by (repeat' (first | (with_reducible exact hB) | (with_reducible refine Below.setCell ?_ ?_ _) | (with_reducible refine Below.alloc ?_ ?_ _) | (with_reducible refine Below.drew ?_) | (simp; done) | omega | (simp; omega)))
  generalize (((((W.setCell ⟨w.heap.size, 0, none⟩ (.int .i64 0)).setCell ⟨w.heap.size, 1, none⟩ (.slice none 0 0)).setCell ⟨w.heap.size, 2, none⟩ (.int .i64 0)).setCell ⟨w.heap.size, 3, none⟩ (.int .i64 0)).setCell ⟨w.heap.size, 4, none⟩ (.bool false)) = W1 at c2 c4 hB1 ⊢
  clear hB hz0 hz1 k0 k1 k2 k3 k4 kf j0 j1 j2 j3 j4 jf
  have hB := hB1
  clear hB1
  have hz0 := c2.lt
  have hz1 := c4.lt
  obtain ⟨-, k0, k1, k2, k3, k4, kf⟩ := c2
  obtain ⟨-, j0, j1, j2, j3, j4, jf⟩ := c4
  go_wp2
  refine bodyPost_ret (v := .tuple #[.agg #[.int .i64 0, .slice none 0 0, .int .i64 0, .int .i64 0, .bool false], .int .i64 2]) (by simp only [results, Try.results23]; go_simp) rfl ⟨rfl, ?_⟩
  repeat' (first | (with_reducible exact hB) | (with_reducible refine Below.setCell ?_ ?_ _) | (with_reducible refine Below.alloc ?_ ?_ _) | (with_reducible refine Below.drew ?_) | (simp; done) | omega | (simp; omega))

set_option maxRecDepth 100000 in
set_option maxHeartbeats 1600000 in
theorem rtrunc_down (s : Int) (A : Option Addr) (n cap : Nat) (du le : Int) (k : Int) (w : World) (h : okB s n du le = true) :
    Calls Try.prog 23 #[.agg #[.int .i64 s, .slice A n cap, .int .i64 du, .int .i64 le, .bool true], .int .i64 k] w fun e w' => e = .returned (.tuple #[.agg #[.int .i64 s, .slice A n cap, .int .i64 du, .int .i64 le, .bool true], .int .i64 19]) ∧ Below w.heap.size w w' := by
  have C := Lib.hid (fun W : World => rready_down s A n cap du le W h)
  clear h
  go_enter Try.func23, Try.ntmps23
  go_wp2_with fail
  refine (C.out _).mono ?_
  rintro e W ⟨rfl, hb⟩
  clear C
  have b2 := ((Bx.new w _ _ _ _ _).alloc _).keep hb
  have b4 := (Bx.new1 w _ _ _ _ _ _).keep hb
  have hB := (two_ _ _).trans (hb.mono (two_ (w := w) _ _).size)
  clear hb
  have hz0 := b2.lt
  have hz1 := b4.lt
  obtain ⟨-, k0, k1, k2, k3, k4, kf⟩ := b2
  obtain ⟨-, j0, j1, j2, j3, j4, jf⟩ := b4
  go_upto_region 2 with fail
  have c2 := Bx.store ⟨hz0, k0, k1, k2, k3, k4, kf⟩ (.int .i64 s) (.slice A n cap) (.int .i64 du) (.int .i64 le) (.bool true)
  have c4 := (Bx.far (Bx.far (Bx.far (Bx.far (Bx.far (⟨hz1, j0, j1, j2, j3, j4, jf⟩ : Bx W (w.heap.size + 1) _ _ _ _ _) ⟨w.heap.size, 0, none⟩ (.int .i64 s) (by simp)) ⟨w.heap.size, 1, none⟩ (.slice A n cap) (by simp)) ⟨w.heap.size, 2, none⟩ (.int .i64 du) (by simp)) ⟨w.heap.size, 3, none⟩ (.int .i64 le) (by simp)) ⟨w.heap.size, 4, none⟩ (.bool true) (by simp))
  have hB1 : Below w.heap.size w (((((W.setCell ⟨w.heap.size, 0, none⟩ (.int .i64 s)).setCell ⟨w.heap.size, 1, none⟩ (.slice A n cap)).setCell ⟨w.heap.size, 2, none⟩ (.int .i64 du)).setCell ⟨w.heap.size, 3, none⟩ (.int .i64 le)).setCell ⟨w.heap.size, 4, none⟩ (.bool true)) := by (repeat' (first | (with_reducible exact hB) | (with_reducible refine Below.setCell ?_ ?_ _) | (with_reducible refine Below.alloc ?_ ?_ _) | (with_reducible refine Below.drew ?_) | (simp; done) | omega | (simp; omega)))
  generalize (((((W.setCell ⟨w.heap.size, 0, none⟩ (.int .i64 s)).setCell ⟨w.heap.size, 1, none⟩ (.slice A n cap)).setCell ⟨w.heap.size, 2, none⟩ (.int .i64 du)).setCell ⟨w.heap.size, 3, none⟩ (.int .i64 le)).setCell ⟨w.heap.size, 4, none⟩ (.bool true)) = W1 at c2 c4 hB1 ⊢
  clear hB hz0 hz1 k0 k1 k2 k3 k4 kf j0 j1 j2 j3 j4 jf
  have hB := hB1
  clear hB1
  have hz0 := c2.lt
  have hz1 := c4.lt
  obtain ⟨-, k0, k1, k2, k3, k4, kf⟩ := c2
  obtain ⟨-, j0, j1, j2, j3, j4, jf⟩ := c4
  go_wp2
  refine bodyPost_ret (v := .tuple #[.agg #[.int .i64 s, .slice A n cap, .int .i64 du, .int .i64 le, .bool true], .int .i64 19]) (by simp only [results, Try.results23]; go_simp) rfl ⟨rfl, ?_⟩
  repeat' (first | (with_reducible exact hB) | (with_reducible refine Below.setCell ?_ ?_ _) | (with_reducible refine Below.alloc ?_ ?_ _) | (with_reducible refine Below.drew ?_) | (simp; done) | omega | (simp; omega))

set_option maxRecDepth 100000 in
set_option maxHeartbeats 1600000 in
theorem rsync_zero (s : Int) (A : Option Addr) (n cap : Nat) (du : Int) (w : World) (h : okB s n du 0 = true) :
    Calls Try.prog 22 #[.agg #[.int .i64 s, .slice A n cap, .int .i64 du, .int .i64 0, .bool false]] w fun e w' => e = .returned (.tuple #[.agg #[.int .i64 s, .slice A n cap, .int .i64 du, .int .i64 0, .bool true], .int .i64 19]) ∧ Below w.heap.size w w' := by
  have C := Lib.hid (fun W : World => rready_ok s A n cap du 0 W h)
  obtain ⟨h1, h2, h3, h4, h5, h6, h7⟩ := okB_iff.1 h
  clear h
  go_enter Try.func22, Try.ntmps22
  go_wp2_with fail
  refine (C.out _).mono ?_
  rintro e W ⟨rfl, hb⟩
  clear C
  have b2 := ((Bx.new w _ _ _ _ _).alloc _).keep hb
  have b4 := (Bx.new1 w _ _ _ _ _ _).keep hb
  have hB := (two_ _ _).trans (hb.mono (two_ (w := w) _ _).size)
  clear hb
  have hz0 := b2.lt
  have hz1 := b4.lt
  obtain ⟨-, k0, k1, k2, k3, k4, kf⟩ := b2
  obtain ⟨-, j0, j1, j2, j3, j4, jf⟩ := b4
  go_upto_region 2 with fail
  have c2 := Bx.store ⟨hz0, k0, k1, k2, k3, k4, kf⟩ (.int .i64 s) (.slice A n cap) (.int .i64 du) (.int .i64 0) (.bool false)
  have c4 := (Bx.far (Bx.far (Bx.far (Bx.far (Bx.far (⟨hz1, j0, j1, j2, j3, j4, jf⟩ : Bx W (w.heap.size + 1) _ _ _ _ _) ⟨w.heap.size, 0, none⟩ (.int .i64 s) (by simp)) ⟨w.heap.size, 1, none⟩ (.slice A n cap) (by simp)) ⟨w.heap.size, 2, none⟩ (.int .i64 du) (by simp)) ⟨w.heap.size, 3, none⟩ (.int .i64 0) (by simp)) ⟨w.heap.size, 4, none⟩ (.bool false) (by simp))
  have hB1 : Below w.heap.size w (((((W.setCell ⟨w.heap.size, 0, none⟩ (.int .i64 s)).setCell ⟨w.heap.size, 1, none⟩ (.slice A n cap)).setCell ⟨w.heap.size, 2, none⟩ (.int .i64 du)).setCell ⟨w.heap.size, 3, none⟩ (.int .i64 0)).setCell ⟨w.heap.size, 4, none⟩ (.bool false)) := by (repeat' (first | (with_reducible exact hB) | (with_reducible refine Below.setCell ?_ ?_ _) | (with_reducible refine Below.alloc ?_ ?_ _) | (with_reducible refine Below.drew ?_) | (simp; done) | omega | (simp; omega)))
  generalize (((((W.setCell ⟨w.heap.size, 0, none⟩ (.int .i64 s)).setCell ⟨w.heap.size, 1, none⟩ (.slice A n cap)).setCell ⟨w.heap.size, 2, none⟩ (.int .i64 du)).setCell ⟨w.heap.size, 3, none⟩ (.int .i64 0)).setCell ⟨w.heap.size, 4, none⟩ (.bool false)) = W1 at c2 c4 hB1 ⊢
  clear hB hz0 hz1 k0 k1 k2 k3 k4 kf j0 j1 j2 j3 j4 jf
  have hB := hB1
  clear hB1
  have hz0 := c2.lt
  have hz1 := c4.lt
  obtain ⟨-, k0, k1, k2, k3, k4, kf⟩ := c2
  obtain ⟨-, j0, j1, j2, j3, j4, jf⟩ := c4
  go_wp2
  refine bodyPost_ret (v := .tuple #[.agg #[.int .i64 s, .slice A n cap, .int .i64 du, .int .i64 0, .bool true], .int .i64 19]) (by simp only [results, Try.results22]; go_simp) rfl ⟨rfl, ?_⟩
  repeat' (first | (with_reducible exact hB) | (with_reducible refine Below.setCell ?_ ?_ _) | (with_reducible refine Below.alloc ?_ ?_ _) | (with_reducible refine Below.drew ?_) | (simp; done) | omega | (simp; omega))

set_option maxRecDepth 100000 in
set_option maxHeartbeats 1600000 in
theorem rsync_ok (s : Int) (A : Option Addr) (n cap : Nat) (du le : Int) (w : World) (h : okB s n du le = true) (hle : (le == 0) = false) :
    Calls Try.prog 22 #[.agg #[.int .i64 s, .slice A n cap, .int .i64 du, .int .i64 le, .bool false]] w fun e w' => e = .returned (.tuple #[.agg #[.int .i64 s, .slice A n cap, .int .i64 n, .int .i64 le, .bool false], .int .i64 0]) ∧ Below w.heap.size w w' := by
  have C := Lib.hid (fun W : World => rready_ok s A n cap du le W h)
  obtain ⟨h1, h2, h3, h4, h5, h6, h7⟩ := okB_iff.1 h
  clear h
  go_enter Try.func22, Try.ntmps22
  go_wp2_with fail
  refine (C.out _).mono ?_
  rintro e W ⟨rfl, hb⟩
  clear C
  have b2 := ((Bx.new w _ _ _ _ _).alloc _).keep hb
  have b4 := (Bx.new1 w _ _ _ _ _ _).keep hb
  have hB := (two_ _ _).trans (hb.mono (two_ (w := w) _ _).size)
  clear hb
  have hz0 := b2.lt
  have hz1 := b4.lt
  obtain ⟨-, k0, k1, k2, k3, k4, kf⟩ := b2
  obtain ⟨-, j0, j1, j2, j3, j4, jf⟩ := b4
  go_upto_region 2 with fail
  have c2 := Bx.store ⟨hz0, k0, k1, k2, k3, k4, kf⟩ (.int .i64 s) (.slice A n cap) (.int .i64 du) (.int .i64 le) (.bool false)
  have c4 := (Bx.far (Bx.far (Bx.far (Bx.far (Bx.far (⟨hz1, j0, j1, j2, j3, j4, jf⟩ : Bx W (w.heap.size + 1) _ _ _ _ _) ⟨w.heap.size, 0, none⟩ (.int .i64 s) (by simp)) ⟨w.heap.size, 1, none⟩ (.slice A n cap) (by simp)) ⟨w.heap.size, 2, none⟩ (.int .i64 du) (by simp)) ⟨w.heap.size, 3, none⟩ (.int .i64 le) (by simp)) ⟨w.heap.size, 4, none⟩ (.bool false) (by simp))
  have hB1 : Below w.heap.size w (((((W.setCell ⟨w.heap.size, 0, none⟩ (.int .i64 s)).setCell ⟨w.heap.size, 1, none⟩ (.slice A n cap)).setCell ⟨w.heap.size, 2, none⟩ (.int .i64 du)).setCell ⟨w.heap.size, 3, none⟩ (.int .i64 le)).setCell ⟨w.heap.size, 4, none⟩ (.bool false)) := by (repeat' (first | (with_reducible exact hB) | (with_reducible refine Below.setCell ?_ ?_ _) | (with_reducible refine Below.alloc ?_ ?_ _) | (with_reducible refine Below.drew ?_) | (simp; done) | omega | (simp; omega)))
  generalize (((((W.setCell ⟨w.heap.size, 0, none⟩ (.int .i64 s)).setCell ⟨w.heap.size, 1, none⟩ (.slice A n cap)).setCell ⟨w.heap.size, 2, none⟩ (.int .i64 du)).setCell ⟨w.heap.size, 3, none⟩ (.int .i64 le)).setCell ⟨w.heap.size, 4, none⟩ (.bool false)) = W1 at c2 c4 hB1 ⊢
  clear hB hz0 hz1 k0 k1 k2 k3 k4 kf j0 j1 j2 j3 j4 jf
  have hB := hB1
  clear hB1
  have hz0 := c2.lt
  have hz1 := c4.lt
  obtain ⟨-, k0, k1, k2, k3, k4, kf⟩ := c2
  obtain ⟨-, j0, j1, j2, j3, j4, jf⟩ := c4
  go_wp2
  refine bodyPost_ret (v := .tuple #[.agg #[.int .i64 s, .slice A n cap, .int .i64 n, .int .i64 le, .bool false], .int .i64 0]) (by simp only [results, Try.results22]; go_simp) rfl ⟨rfl, ?_⟩
  repeat' (first | (with_reducible exact hB) | (with_reducible refine Below.setCell ?_ ?_ _) | (with_reducible refine Below.alloc ?_ ?_ _) | (with_reducible refine Below.drew ?_) | (simp; done) | omega | (simp; omega))

set_option maxRecDepth 100000 in
set_option maxHeartbeats 1600000 in
theorem rarm_low (s : Int) (A : Option Addr) (n cap : Nat) (du le : Int) (k : Int) (w : World) (h : okB s n du le = true) (hk : k < 0) :
    Calls Try.prog 24 #[.agg #[.int .i64 s, .slice A n cap, .int .i64 du, .int .i64 le, .bool false], .int .i64 k] w fun e w' => e = .returned (.tuple #[.agg #[.int .i64 0, .slice none 0 0, .int .i64 0, .int .i64 0, .bool false], .int .i64 2]) ∧ Below w.heap.size w w' := by
  have C := Lib.hid (fun W : World => rready_ok s A n cap du le W h)
  obtain ⟨h1, h2, h3, h4, h5, h6, h7⟩ := okB_iff.1 h
  clear h
  go_enter Try.func24, Try.ntmps24
  go_wp2_with fail
  refine (C.out _).mono ?_
  rintro e W ⟨rfl, hb⟩
  clear C
  have b2 := ((Bx.new w _ _ _ _ _).alloc _).keep hb
  have b4 := (Bx.new1 w _ _ _ _ _ _).keep hb
  have hB := (two_ _ _).trans (hb.mono (two_ (w := w) _ _).size)
  clear hb
  have hz0 := b2.lt
  have hz1 := b4.lt
  obtain ⟨-, k0, k1, k2, k3, k4, kf⟩ := b2
  obtain ⟨-, j0, j1, j2, j3, j4, jf⟩ := b4
  go_upto_region 2 with fail
  have c2 := Bx.store ⟨hz0, k0, k1, k2, k3, k4, kf⟩ (.int .i64 s) (.slice A n cap) (.int .i64 du) (.int .i64 le) (.bool false)
  have c4 := (Bx.far (Bx.far (Bx.far (Bx.far (Bx.far (⟨hz1, j0, j1, j2, j3, j4, jf⟩ : Bx W (w.heap.size + 1) _ _ _ _ _) ⟨w.heap.size, 0, none⟩ (.int .i64 s) (by simp)) ⟨w.heap.size, 1, none⟩ (.slice A n cap) (by simp)) ⟨w.heap.size, 2, none⟩ (.int .i64 du) (by simp)) ⟨w.heap.size, 3, none⟩ (.int .i64 le) (by simp)) ⟨w.heap.size, 4, none⟩ (.bool false) (by simp))
  have hB1 : Below w.heap.size w (((((W.setCell ⟨w.heap.size, 0, none⟩ (.int .i64 s)).setCell ⟨w.heap.size, 1, none⟩ (.slice A n cap)).setCell ⟨w.heap.size, 2, none⟩ (.int .i64 du)).setCell ⟨w.heap.size, 3, none⟩ (.int .i64 le)).setCell ⟨w.heap.size, 4, none⟩ (.bool false)) := by (repeat' (first | (with_reducible exact hB) | (with_reducible refine Below.setCell ?_ ?_ _) | (with_reducible refine Below.alloc ?_ ?_ _) | (with_reducible refine Below.drew ?_) | (simp; done) | omega | (simp; omega)))
  generalize (((((W.setCell ⟨w.heap.size, 0, none⟩ (.int .i64 s)).setCell ⟨w.heap.size, 1, none⟩ (.slice A n cap)).setCell ⟨w.heap.size, 2, none⟩ (.int .i64 du)).setCell ⟨w.heap.size, 3, none⟩ (.int .i64 le)).setCell ⟨w.heap.size, 4, none⟩ (.bool false)) = W1 at c2 c4 hB1 ⊢
  clear hB hz0 hz1 k0 k1 k2 k3 k4 kf j0 j1 j2 j3 j4 jf
  have hB := hB1
  clear hB1
  have hz0 := c2.lt
  have hz1 := c4.lt
  obtain ⟨-, k0, k1, k2, k3, k4, kf⟩ := c2
  obtain ⟨-, j0, j1, j2, j3, j4, jf⟩ := c4
  go_wp2
  refine bodyPost_ret (v := .tuple #[.agg #[.int .i64 0, .slice none 0 0, .int .i64 0, .int .i64 0, .bool false], .int .i64 2]) (by simp only [results, Try.results24]; go_simp) rfl ⟨rfl, ?_⟩
  repeat' (first | (with_reducible exact hB) | (with_reducible refine Below.setCell ?_ ?_ _) | (with_reducible refine Below.alloc ?_ ?_ _) | (with_reducible refine Below.drew ?_) | (simp; done) | omega | (simp; omega))

set_option maxRecDepth 100000 in
set_option maxHeartbeats 1600000 in
theorem rarm_high (s : Int) (A : Option Addr) (n cap : Nat) (du le : Int) (k : Int) (w : World) (h : okB s n du le = true) (hk : 1048576 < k) :
    Calls Try.prog 24 #[.agg #[.int .i64 s, .slice A n cap, .int .i64 du, .int .i64 le, .bool false], .int .i64 k] w fun e w' => e = .returned (.tuple #[.agg #[.int .i64 0, .slice none 0 0, .int .i64 0, .int .i64 0, .bool false], .int .i64 2]) ∧ Below w.heap.size w w' := by
  have C := Lib.hid (fun W : World => rready_ok s A n cap du le W h)
  obtain ⟨h1, h2, h3, h4, h5, h6, h7⟩ := okB_iff.1 h
  clear h
  go_enter Try.func24, Try.ntmps24
  go_wp2_with fail
  refine (C.out _).mono ?_
  rintro e W ⟨rfl, hb⟩
  clear C
  have b2 := ((Bx.new w _ _ _ _ _).alloc _).keep hb
  have b4 := (Bx.new1 w _ _ _ _ _ _).keep hb
  have hB := (two_ _ _).trans (hb.mono (two_ (w := w) _ _).size)
  clear hb
  have hz0 := b2.lt
  have hz1 := b4.lt
  obtain ⟨-, k0, k1, k2, k3, k4, kf⟩ := b2
  obtain ⟨-, j0, j1, j2, j3, j4, jf⟩ := b4
  go_upto_region 2 with fail
  have c2 := Bx.store ⟨hz0, k0, k1, k2, k3, k4, kf⟩ (.int .i64 s) (.slice A n cap) (.int .i64 du) (.int .i64 le) (.bool false)
  have c4 := (Bx.far (Bx.far (Bx.far (Bx.far (Bx.far (⟨hz1, j0, j1, j2, j3, j4, jf⟩ : Bx W (w.heap.size + 1) _ _ _ _ _) ⟨w.heap.size, 0, none⟩ (.int .i64 s) (by simp)) ⟨w.heap.size, 1, none⟩ (.slice A n cap) (by simp)) ⟨w.heap.size, 2, none⟩ (.int .i64 du) (by simp)) ⟨w.heap.size, 3, none⟩ (.int .i64 le) (by simp)) ⟨w.heap.size, 4, none⟩ (.bool false) (by simp))
  have hB1 : Below w.heap.size w (((((W.setCell ⟨w.heap.size, 0, none⟩ (.int .i64 s)).setCell ⟨w.heap.size, 1, none⟩ (.slice A n cap)).setCell ⟨w.heap.size, 2, none⟩ (.int .i64 du)).setCell ⟨w.heap.size, 3, none⟩ (.int .i64 le)).setCell ⟨w.heap.size, 4, none⟩ (.bool false)) := by (repeat' (first | (with_reducible exact hB) | (with_reducible refine Below.setCell ?_ ?_ _) | (with_reducible refine Below.alloc ?_ ?_ _) | (with_reducible refine Below.drew ?_) | (simp; done) | omega | (simp; omega)))
  generalize (((((W.setCell ⟨w.heap.size, 0, none⟩ (.int .i64 s)).setCell ⟨w.heap.size, 1, none⟩ (.slice A n cap)).setCell ⟨w.heap.size, 2, none⟩ (.int .i64 du)).setCell ⟨w.heap.size, 3, none⟩ (.int .i64 le)).setCell ⟨w.heap.size, 4, none⟩ (.bool false)) = W1 at c2 c4 hB1 ⊢
  clear hB hz0 hz1 k0 k1 k2 k3 k4 kf j0 j1 j2 j3 j4 jf
  have hB := hB1
  clear hB1
  have hz0 := c2.lt
  have hz1 := c4.lt
  obtain ⟨-, k0, k1, k2, k3, k4, kf⟩ := c2
  obtain ⟨-, j0, j1, j2, j3, j4, jf⟩ := c4
  go_wp2
  refine bodyPost_ret (v := .tuple #[.agg #[.int .i64 0, .slice none 0 0, .int .i64 0, .int .i64 0, .bool false], .int .i64 2]) (by simp only [results, Try.results24]; go_simp) rfl ⟨rfl, ?_⟩
  repeat' (first | (with_reducible exact hB) | (with_reducible refine Below.setCell ?_ ?_ _) | (with_reducible refine Below.alloc ?_ ?_ _) | (with_reducible refine Below.drew ?_) | (simp; done) | omega | (simp; omega))

set_option maxRecDepth 100000 in
set_option maxHeartbeats 1600000 in
theorem rarm_ok (s : Int) (A : Option Addr) (n cap : Nat) (du le : Int) (k : Int) (w : World) (h : okB s n du le = true) (hk : 0 ≤ k) (hk2 : k ≤ 1048576) :
    Calls Try.prog 24 #[.agg #[.int .i64 s, .slice A n cap, .int .i64 du, .int .i64 le, .bool false], .int .i64 k] w fun e w' => e = .returned (.tuple #[.agg #[.int .i64 s, .slice A n cap, .int .i64 du, .int .i64 k, .bool false], .int .i64 0]) ∧ Below w.heap.size w w' := by
  have C := Lib.hid (fun W : World => rready_ok s A n cap du le W h)
  obtain ⟨h1, h2, h3, h4, h5, h6, h7⟩ := okB_iff.1 h
  clear h
  go_enter Try.func24, Try.ntmps24
  go_wp2_with fail
  refine (C.out _).mono ?_
  rintro e W ⟨rfl, hb⟩
  clear C
  have b2 := ((Bx.new w _ _ _ _ _).alloc _).keep hb
  have b4 := (Bx.new1 w _ _ _ _ _ _).keep hb
  have hB := (two_ _ _).trans (hb.mono (two_ (w := w) _ _).size)
  clear hb
  have hz0 := b2.lt
  have hz1 := b4.lt
  obtain ⟨-, k0, k1, k2, k3, k4, kf⟩ := b2
  obtain ⟨-, j0, j1, j2, j3, j4, jf⟩ := b4
  go_upto_region 2 with fail
  have c2 := Bx.store ⟨hz0, k0, k1, k2, k3, k4, kf⟩ (.int .i64 s) (.slice A n cap) (.int .i64 du) (.int .i64 le) (.bool false)
  have c4 := (Bx.far (Bx.far (Bx.far (Bx.far (Bx.far (⟨hz1, j0, j1, j2, j3, j4, jf⟩ : Bx W (w.heap.size + 1) _ _ _ _ _) ⟨w.heap.size, 0, none⟩ (.int .i64 s) (by simp)) ⟨w.heap.size, 1, none⟩ (.slice A n cap) (by simp)) ⟨w.heap.size, 2, none⟩ (.int .i64 du) (by simp)) ⟨w.heap.size, 3, none⟩ (.int .i64 le) (by simp)) ⟨w.heap.size, 4, none⟩ (.bool false) (by simp))
  have hB1 : Below w.heap.size w (((((W.setCell ⟨w.heap.size, 0, none⟩ (.int .i64 s)).setCell ⟨w.heap.size, 1, none⟩ (.slice A n cap)).setCell ⟨w.heap.size, 2, none⟩ (.int .i64 du)).setCell ⟨w.heap.size, 3, none⟩ (.int .i64 le)).setCell ⟨w.heap.size, 4, none⟩ (.bool false)) := by (repeat' (first | (with_reducible exact hB) | (with_reducible refine Below.setCell ?_ ?_ _) | (with_reducible refine Below.alloc ?_ ?_ _) | (with_reducible refine Below.drew ?_) | (simp; done) | omega | (simp; omega)))
  generalize (((((W.setCell ⟨w.heap.size, 0, none⟩ (.int .i64 s)).setCell ⟨w.heap.size, 1, none⟩ (.slice A n cap)).setCell ⟨w.heap.size, 2, none⟩ (.int .i64 du)).setCell ⟨w.heap.size, 3, none⟩ (.int .i64 le)).setCell ⟨w.heap.size, 4, none⟩ (.bool false)) = W1 at c2 c4 hB1 ⊢
  clear hB hz0 hz1 k0 k1 k2 k3 k4 kf j0 j1 j2 j3 j4 jf
  have hB := hB1
  clear hB1
  have hz0 := c2.lt
  have hz1 := c4.lt
  obtain ⟨-, k0, k1, k2, k3, k4, kf⟩ := c2
  obtain ⟨-, j0, j1, j2, j3, j4, jf⟩ := c4
  go_wp2
  refine bodyPost_ret (v := .tuple #[.agg #[.int .i64 s, .slice A n cap, .int .i64 du, .int .i64 k, .bool false], .int .i64 0]) (by simp only [results, Try.results24]; go_simp) rfl ⟨rfl, ?_⟩
  repeat' (first | (with_reducible exact hB) | (with_reducible refine Below.setCell ?_ ?_ _) | (with_reducible refine Below.alloc ?_ ?_ _) | (with_reducible refine Below.drew ?_) | (simp; done) | omega | (simp; omega))

set_option maxRecDepth 100000 in
set_option maxHeartbeats 1600000 in
theorem rtrunc_low (s : Int) (A : Option Addr) (n cap : Nat) (du le : Int) (k : Int) (w : World) (h : okB s n du le = true) (hk : k < 0) :
    Calls Try.prog 23 #[.agg #[.int .i64 s, .slice A n cap, .int .i64 du, .int .i64 le, .bool false], .int .i64 k] w fun e w' => e = .returned (.tuple #[.agg #[.int .i64 0, .slice none 0 0, .int .i64 0, .int .i64 0, .bool false], .int .i64 2]) ∧ Below w.heap.size w w' := by
  have C := Lib.hid (fun W : World => rready_ok s A n cap du le W h)
  obtain ⟨h1, h2, h3, h4, h5, h6, h7⟩ := okB_iff.1 h
  clear h
  go_enter Try.func23, Try.ntmps23
  go_wp2_with fail
  refine (C.out _).mono ?_
  rintro e W ⟨rfl, hb⟩
  clear C
  have b2 := ((Bx.new w _ _ _ _ _).alloc _).keep hb
  have b4 := (Bx.new1 w _ _ _ _ _ _).keep hb
  have hB := (two_ _ _).trans (hb.mono (two_ (w := w) _ _).size)
  clear hb
  have hz0 := b2.lt
  have hz1 := b4.lt
  obtain ⟨-, k0, k1, k2, k3, k4, kf⟩ := b2
  obtain ⟨-, j0, j1, j2, j3, j4, jf⟩ := b4
  go_upto_region 2 with fail
  have c2 := Bx.store ⟨hz0, k0, k1, k2, k3, k4, kf⟩ (.int .i64 s) (.slice A n cap) (.int .i64 du) (.int .i64 le) (.bool false)
  have c4 := (Bx.far (Bx.far (Bx.far (Bx.far (Bx.far (⟨hz1, j0, j1, j2, j3, j4, jf⟩ : Bx W (w.heap.size + 1) _ _ _ _ _) ⟨w.heap.size, 0, none⟩ (.int .i64 s) (by simp)) ⟨w.heap.size, 1, none⟩ (.slice A n cap) (by simp)) ⟨w.heap.size, 2, none⟩ (.int .i64 du) (by simp)) ⟨w.heap.size, 3, none⟩ (.int .i64 le) (by simp)) ⟨w.heap.size, 4, none⟩ (.bool false) (by simp))
  have hB1 : Below w.heap.size w (((((W.setCell ⟨w.heap.size, 0, none⟩ (.int .i64 s)).setCell ⟨w.heap.size, 1, none⟩ (.slice A n cap)).setCell ⟨w.heap.size, 2, none⟩ (.int .i64 du)).setCell ⟨w.heap.size, 3, none⟩ (.int .i64 le)).setCell ⟨w.heap.size, 4, none⟩ (.bool false)) := by (repeat' (first | (with_reducible exact hB) | (with_reducible refine Below.setCell ?_ ?_ _) | (with_reducible refine Below.alloc ?_ ?_ _) | (with_reducible refine Below.drew ?_) | (simp; done) | omega | (simp; omega)))
  generalize (((((W.setCell ⟨w.heap.size, 0, none⟩ (.int .i64 s)).setCell ⟨w.heap.size, 1, none⟩ (.slice A n cap)).setCell ⟨w.heap.size, 2, none⟩ (.int .i64 du)).setCell ⟨w.heap.size, 3, none⟩ (.int .i64 le)).setCell ⟨w.heap.size, 4, none⟩ (.bool false)) = W1 at c2 c4 hB1 ⊢
  clear hB hz0 hz1 k0 k1 k2 k3 k4 kf j0 j1 j2 j3 j4 jf
  have hB := hB1
  clear hB1
  have hz0 := c2.lt
  have hz1 := c4.lt
  obtain ⟨-, k0, k1, k2, k3, k4, kf⟩ := c2
  obtain ⟨-, j0, j1, j2, j3, j4, jf⟩ := c4
  go_wp2
  refine bodyPost_ret (v := .tuple #[.agg #[.int .i64 0, .slice none 0 0, .int .i64 0, .int .i64 0, .bool false], .int .i64 2]) (by simp only [results, Try.results23]; go_simp) rfl ⟨rfl, ?_⟩
  repeat' (first | (with_reducible exact hB) | (with_reducible refine Below.setCell ?_ ?_ _) | (with_reducible refine Below.alloc ?_ ?_ _) | (with_reducible refine Below.drew ?_) | (simp; done) | omega | (simp; omega))

set_option maxRecDepth 100000 in
set_option maxHeartbeats 1600000 in
theorem rtrunc_high (s : Int) (A : Option Addr) (n cap : Nat) (du le : Int) (k : Int) (w : World) (h : okB s n du le = true) (hk : (n : Int) < k) :
    Calls Try.prog 23 #[.agg #[.int .i64 s, .slice A n cap, .int .i64 du, .int .i64 le, .bool false], .int .i64 k] w fun e w' => e = .returned (.tuple #[.agg #[.int .i64 0, .slice none 0 0, .int .i64 0, .int .i64 0, .bool false], .int .i64 2]) ∧ Below w.heap.size w w' := by
  have C := Lib.hid (fun W : World => rready_ok s A n cap du le W h)
  obtain ⟨h1, h2, h3, h4, h5, h6, h7⟩ := okB_iff.1 h
  clear h
  go_enter Try.func23, Try.ntmps23
  go_wp2_with fail
  refine (C.out _).mono ?_
  rintro e W ⟨rfl, hb⟩
  clear C
  have b2 := ((Bx.new w _ _ _ _ _).alloc _).keep hb
  have b4 := (Bx.new1 w _ _ _ _ _ _).keep hb
  have hB := (two_ _ _).trans (hb.mono (two_ (w := w) _ _).size)
  clear hb
  have hz0 := b2.lt
  have hz1 := b4.lt
  obtain ⟨-, k0, k1, k2, k3, k4, kf⟩ := b2
  obtain ⟨-, j0, j1, j2, j3, j4, jf⟩ := b4
  go_upto_region 2 with fail
  have c2 := Bx.store ⟨hz0, k0, k1, k2, k3, k4, kf⟩ (.int .i64 s) (.slice A n cap) (.int .i64 du) (.int .i64 le) (.bool false)
  have c4 := (Bx.far (Bx.far (Bx.far (Bx.far (Bx.far (⟨hz1, j0, j1, j2, j3, j4, jf⟩ : Bx W (w.heap.size + 1) _ _ _ _ _) ⟨w.heap.size, 0, none⟩ (.int .i64 s) (by simp)) ⟨w.heap.size, 1, none⟩ (.slice A n cap) (by simp)) ⟨w.heap.size, 2, none⟩ (.int .i64 du) (by simp)) ⟨w.heap.size, 3, none⟩ (.int .i64 le) (by simp)) ⟨w.heap.size, 4, none⟩ (.bool false) (by simp))
  have hB1 : Below w.heap.size w (((((W.setCell ⟨w.heap.size, 0, none⟩ (.int .i64 s)).setCell ⟨w.heap.size, 1, none⟩ (.slice A n cap)).setCell ⟨w.heap.size, 2, none⟩ (.int .i64 du)).setCell ⟨w.heap.size, 3, none⟩ (.int .i64 le)).setCell ⟨w.heap.size, 4, none⟩ (.bool false)) := by (repeat' (first | (with_reducible exact hB) | (with_reducible refine Below.setCell ?_ ?_ _) | (with_reducible refine Below.alloc ?_ ?_ _) | (with_reducible refine Below.drew ?_) | (simp; done) | omega | (simp; omega)))
  generalize (((((W.setCell ⟨w.heap.size, 0, none⟩ (.int .i64 s)).setCell ⟨w.heap.size, 1, none⟩ (.slice A n cap)).setCell ⟨w.heap.size, 2, none⟩ (.int .i64 du)).setCell ⟨w.heap.size, 3, none⟩ (.int .i64 le)).setCell ⟨w.heap.size, 4, none⟩ (.bool false)) = W1 at c2 c4 hB1 ⊢
  clear hB hz0 hz1 k0 k1 k2 k3 k4 kf j0 j1 j2 j3 j4 jf
  have hB := hB1
  clear hB1
  have hz0 := c2.lt
  have hz1 := c4.lt
  obtain ⟨-, k0, k1, k2, k3, k4, kf⟩ := c2
  obtain ⟨-, j0, j1, j2, j3, j4, jf⟩ := c4
  go_wp2
  refine bodyPost_ret (v := .tuple #[.agg #[.int .i64 0, .slice none 0 0, .int .i64 0, .int .i64 0, .bool false], .int .i64 2]) (by simp only [results, Try.results23]; go_simp) rfl ⟨rfl, ?_⟩
  repeat' (first | (with_reducible exact hB) | (with_reducible refine Below.setCell ?_ ?_ _) | (with_reducible refine Below.alloc ?_ ?_ _) | (with_reducible refine Below.drew ?_) | (simp; done) | omega | (simp; omega))

set_option maxRecDepth 100000 in
set_option maxHeartbeats 1600000 in
theorem rappend_full (s : Int) (A : Option Addr) (n cap : Nat) (du le : Int) (B : Option Addr) (m cb : Nat) (w : World) (h : okB s n du le = true) (hm : s < n + m) (hmm : m ≤ 9000000000000000000) :
    Calls Try.prog 26 #[.agg #[.int .i64 s, .slice A n cap, .int .i64 du, .int .i64 le, .bool false], .slice B m cb] w fun e w' => e = .returned (.tuple #[.agg #[.int .i64 0, .slice none 0 0, .int .i64 0, .int .i64 0, .bool false], .int .i64 6]) ∧ Below w.heap.size w w' := by
  have C := Lib.hid (fun W : World => rready_ok s A n cap du le W h)
  obtain ⟨h1, h2, h3, h4, h5, h6, h7⟩ := okB_iff.1 h
  clear h
  have hs : (n : Int) + m ≤ 9223372036854775807 := by omega
  go_enter Try.func26, Try.ntmps26
  go_wp2_with fail
  refine (C.out _).mono ?_
  rintro e W ⟨rfl, hb⟩
  clear C
  have b2 := ((Bx.new w _ _ _ _ _).alloc _).keep hb
  have b4 := (Bx.new1 w _ _ _ _ _ _).keep hb
  have hB := (two_ _ _).trans (hb.mono (two_ (w := w) _ _).size)
  clear hb
  have hz0 := b2.lt
  have hz1 := b4.lt
  obtain ⟨-, k0, k1, k2, k3, k4, kf⟩ := b2
  obtain ⟨-, j0, j1, j2, j3, j4, jf⟩ := b4
  go_upto_region 2 with fail
  have c2 := Bx.store ⟨hz0, k0, k1, k2, k3, k4, kf⟩ (.int .i64 s) (.slice A n cap) (.int .i64 du) (.int .i64 le) (.bool false)
  have c4 := (Bx.far (Bx.far (Bx.far (Bx.far (Bx.far (⟨hz1, j0, j1, j2, j3, j4, jf⟩ : Bx W (w.heap.size + 1) _ _ _ _ _) ⟨w.heap.size, 0, none⟩ (.int .i64 s) (by simp)) ⟨w.heap.size, 1, none⟩ (.slice A n cap) (by simp)) ⟨w.heap.size, 2, none⟩ (.int .i64 du) (by simp)) ⟨w.heap.size, 3, none⟩ (.int .i64 le) (by simp)) ⟨w.heap.size, 4, none⟩ (.bool false) (by simp))
  have hB1 : Below w.heap.size w (((((W.setCell ⟨w.heap.size, 0, none⟩ (.int .i64 s)).setCell ⟨w.heap.size, 1, none⟩ (.slice A n cap)).setCell ⟨w.heap.size, 2, none⟩ (.int .i64 du)).setCell ⟨w.heap.size, 3, none⟩ (.int .i64 le)).setCell ⟨w.heap.size, 4, none⟩ (.bool false)) := by (repeat' (first | (with_reducible exact hB) | (with_reducible refine Below.setCell ?_ ?_ _) | (with_reducible refine Below.alloc ?_ ?_ _) | (with_reducible refine Below.drew ?_) | (simp; done) | omega | (simp; omega)))
  generalize (((((W.setCell ⟨w.heap.size, 0, none⟩ (.int .i64 s)).setCell ⟨w.heap.size, 1, none⟩ (.slice A n cap)).setCell ⟨w.heap.size, 2, none⟩ (.int .i64 du)).setCell ⟨w.heap.size, 3, none⟩ (.int .i64 le)).setCell ⟨w.heap.size, 4, none⟩ (.bool false)) = W1 at c2 c4 hB1 ⊢
  clear hB hz0 hz1 k0 k1 k2 k3 k4 kf j0 j1 j2 j3 j4 jf
  have hB := hB1
  clear hB1
  have hz0 := c2.lt
  have hz1 := c4.lt
  obtain ⟨-, k0, k1, k2, k3, k4, kf⟩ := c2
  obtain ⟨-, j0, j1, j2, j3, j4, jf⟩ := c4
  go_wp2
  refine bodyPost_ret (v := .tuple #[.agg #[.int .i64 0, .slice none 0 0, .int .i64 0, .int .i64 0, .bool false], .int .i64 6]) (by simp only [results, Try.results26]; go_simp) rfl ⟨rfl, ?_⟩
  repeat' (first | (with_reducible exact hB) | (with_reducible refine Below.setCell ?_ ?_ _) | (with_reducible refine Below.alloc ?_ ?_ _) | (with_reducible refine Below.drew ?_) | (simp; done) | omega | (simp; omega))
end Go.Proofs.Ytdchodjfgeglgaa
