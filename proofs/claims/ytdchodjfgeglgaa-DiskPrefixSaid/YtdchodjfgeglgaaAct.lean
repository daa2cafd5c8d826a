/- Contracts: what performs an operation, of the program and of the reference. -/
import Derived.Test.YtdchodjfgeglgaaNew
import Derived.Deep.Cut
namespace Go.Proofs.Ytdchodjfgeglgaa
open Go.ChangeShapes Go.WideShapes Go.ChangeAt Go.RowKit

set_option maxRecDepth 100000 in
set_option maxHeartbeats 1600000 in
theorem act_sync3 (s : Int) (A : Option Addr) (cap : Nat) (xs : List Int) (du le : Int) (dn : Bool) (m : Int) (B : Option Addr) (cb : Nat) (ys : List Int) (w : World) (hx : Sl w A cap xs) :
    Calls Try.prog 13 #[.agg #[.int .i64 s, .slice A xs.length cap, .int .i64 du, .int .i64 le, .bool dn], .agg #[.int .i64 3, .int .i64 m, .slice B ys.length cb]] w (GivesD w A xs (syncF ⟨s, xs, du, le, dn⟩)) := by
  have C := Lib.hid (fun (W : World) (h : Sl W A cap xs) => sync_gives ⟨s, xs, du, le, dn⟩ A cap W h)
  generalize syncF ⟨s, xs, du, le, dn⟩ = r at C ⊢
  obtain ⟨⟨s2, xs2, du2, le2, dn2⟩, x⟩ := r
  go_enter Try.func13, Try.ntmps13
  go_wp2_with fail
  refine (C.out _ (hx.keep (three_ _ _ _))).mono ?_
  rintro e W ⟨A2, c2, rfl, hS2, hst, hb⟩
  clear C
  dsimp only [dval]
  dsimp only at hst hS2
  have b4 := (Bx.new2 w _ _ _ _ _ _ _).keep hb
  have hB := (three_ _ _ _).trans (hb.mono (three_ (w := w) _ _ _).size)
  have hap := hst (w.heap.size + 1 + 1) (by simp) (hx.apart (by omega))
  have hst2 : Stays w.heap.size A xs A2 xs2 := fun b h k => hst b (by simp; omega) k
  have hz0 : w.heap.size < W.heap.size := by have := b4.lt; omega
  have hz1 : w.heap.size + 1 < W.heap.size := by have := b4.lt; omega
  clear hb hst
  have hz2 := b4.lt
  obtain ⟨-, j0, j1, j2, j3, j4, jf⟩ := b4
  go_wp2
  refine bodyPost_ret (v := .tuple #[.agg #[.int .i64 s2, .slice A2 xs2.length c2, .int .i64 du2, .int .i64 le2, .bool dn2], .int .i64 x]) (by simp only [results, Try.results13]; go_simp) rfl ⟨A2, c2, rfl, ?_, hst2, ?_⟩
  · (repeat' (first | (with_reducible exact hS2) | (with_reducible exact hap) | (with_reducible refine Sl.setCell ?_ _ _ ?_) | (with_reducible refine Sl.alloc ?_ _)))
  · (repeat' (first | (with_reducible exact hB) | (with_reducible exact Below.refl _ _) | (with_reducible refine Below.setCell ?_ ?_ _) | (with_reducible refine Below.alloc ?_ ?_ _) | (with_reducible refine Below.drew ?_) | (simp; done) | omega | (simp; omega)))

set_option maxRecDepth 100000 in
set_option maxHeartbeats 1600000 in
theorem act_sync4 (s : Int) (A : Option Addr) (cap : Nat) (xs : List Int) (du le : Int) (dn : Bool) (m : Int) (B : Option Addr) (cb : Nat) (ys : List Int) (w : World) (hx : Sl w A cap xs) :
    Calls Try.prog 13 #[.agg #[.int .i64 s, .slice A xs.length cap, .int .i64 du, .int .i64 le, .bool dn], .agg #[.int .i64 4, .int .i64 m, .slice B ys.length cb]] w (GivesD w A xs (syncF ⟨s, xs, du, le, dn⟩)) := by
  have C := Lib.hid (fun (W : World) (h : Sl W A cap xs) => sync_gives ⟨s, xs, du, le, dn⟩ A cap W h)
  generalize syncF ⟨s, xs, du, le, dn⟩ = r at C ⊢
  obtain ⟨⟨s2, xs2, du2, le2, dn2⟩, x⟩ := r
  go_enter Try.func13, Try.ntmps13
  go_wp2_with fail
  refine (C.out _ (hx.keep (three_ _ _ _))).mono ?_
  rintro e W ⟨A2, c2, rfl, hS2, hst, hb⟩
  clear C
  dsimp only [dval]
  dsimp only at hst hS2
  have b4 := (Bx.new2 w _ _ _ _ _ _ _).keep hb
  have hB := (three_ _ _ _).trans (hb.mono (three_ (w := w) _ _ _).size)
  have hap := hst (w.heap.size + 1 + 1) (by simp) (hx.apart (by omega))
  have hst2 : Stays w.heap.size A xs A2 xs2 := fun b h k => hst b (by simp; omega) k
  have hz0 : w.heap.size < W.heap.size := by have := b4.lt; omega
  have hz1 : w.heap.size + 1 < W.heap.size := by have := b4.lt; omega
  clear hb hst
  have hz2 := b4.lt
  obtain ⟨-, j0, j1, j2, j3, j4, jf⟩ := b4
  go_wp2
  refine bodyPost_ret (v := .tuple #[.agg #[.int .i64 s2, .slice A2 xs2.length c2, .int .i64 du2, .int .i64 le2, .bool dn2], .int .i64 x]) (by simp only [results, Try.results13]; go_simp) rfl ⟨A2, c2, rfl, ?_, hst2, ?_⟩
  · (repeat' (first | (with_reducible exact hS2) | (with_reducible exact hap) | (with_reducible refine Sl.setCell ?_ _ _ ?_) | (with_reducible refine Sl.alloc ?_ _)))
  · (repeat' (first | (with_reducible exact hB) | (with_reducible exact Below.refl _ _) | (with_reducible refine Below.setCell ?_ ?_ _) | (with_reducible refine Below.alloc ?_ ?_ _) | (with_reducible refine Below.drew ?_) | (simp; done) | omega | (simp; omega)))

set_option maxRecDepth 100000 in
set_option maxHeartbeats 1600000 in
theorem act_trunc (s : Int) (A : Option Addr) (cap : Nat) (xs : List Int) (du le : Int) (dn : Bool) (m : Int) (B : Option Addr) (cb : Nat) (ys : List Int) (w : World) (hx : Sl w A cap xs) :
    Calls Try.prog 13 #[.agg #[.int .i64 s, .slice A xs.length cap, .int .i64 du, .int .i64 le, .bool dn], .agg #[.int .i64 5, .int .i64 m, .slice B ys.length cb]] w (GivesD w A xs (truncF ⟨s, xs, du, le, dn⟩ m)) := by
  have C := Lib.hid (fun (W : World) (h : Sl W A cap xs) => trunc_gives ⟨s, xs, du, le, dn⟩ A cap W h m)
  generalize truncF ⟨s, xs, du, le, dn⟩ m = r at C ⊢
  obtain ⟨⟨s2, xs2, du2, le2, dn2⟩, x⟩ := r
  go_enter Try.func13, Try.ntmps13
  go_wp2_with fail
  refine (C.out _ (hx.keep (three_ _ _ _))).mono ?_
  rintro e W ⟨A2, c2, rfl, hS2, hst, hb⟩
  clear C
  dsimp only [dval]
  dsimp only at hst hS2
  have b4 := (Bx.new2 w _ _ _ _ _ _ _).keep hb
  have hB := (three_ _ _ _).trans (hb.mono (three_ (w := w) _ _ _).size)
  have hap := hst (w.heap.size + 1 + 1) (by simp) (hx.apart (by omega))
  have hst2 : Stays w.heap.size A xs A2 xs2 := fun b h k => hst b (by simp; omega) k
  have hz0 : w.heap.size < W.heap.size := by have := b4.lt; omega
  have hz1 : w.heap.size + 1 < W.heap.size := by have := b4.lt; omega
  clear hb hst
  have hz2 := b4.lt
  obtain ⟨-, j0, j1, j2, j3, j4, jf⟩ := b4
  go_wp2
  refine bodyPost_ret (v := .tuple #[.agg #[.int .i64 s2, .slice A2 xs2.length c2, .int .i64 du2, .int .i64 le2, .bool dn2], .int .i64 x]) (by simp only [results, Try.results13]; go_simp) rfl ⟨A2, c2, rfl, ?_, hst2, ?_⟩
  · (repeat' (first | (with_reducible exact hS2) | (with_reducible exact hap) | (with_reducible refine Sl.setCell ?_ _ _ ?_) | (with_reducible refine Sl.alloc ?_ _)))
  · (repeat' (first | (with_reducible exact hB) | (with_reducible exact Below.refl _ _) | (with_reducible refine Below.setCell ?_ ?_ _) | (with_reducible refine Below.alloc ?_ ?_ _) | (with_reducible refine Below.drew ?_) | (simp; done) | omega | (simp; omega)))

set_option maxRecDepth 100000 in
set_option maxHeartbeats 1600000 in
theorem act_arm (s : Int) (A : Option Addr) (cap : Nat) (xs : List Int) (du le : Int) (dn : Bool) (m : Int) (B : Option Addr) (cb : Nat) (ys : List Int) (w : World) (hx : Sl w A cap xs) :
    Calls Try.prog 13 #[.agg #[.int .i64 s, .slice A xs.length cap, .int .i64 du, .int .i64 le, .bool dn], .agg #[.int .i64 6, .int .i64 m, .slice B ys.length cb]] w (GivesD w A xs (armF ⟨s, xs, du, le, dn⟩ m)) := by
  have C := Lib.hid (fun (W : World) (h : Sl W A cap xs) => arm_gives ⟨s, xs, du, le, dn⟩ A cap W h m)
  generalize armF ⟨s, xs, du, le, dn⟩ m = r at C ⊢
  obtain ⟨⟨s2, xs2, du2, le2, dn2⟩, x⟩ := r
  go_enter Try.func13, Try.ntmps13
  go_wp2_with fail
  refine (C.out _ (hx.keep (three_ _ _ _))).mono ?_
  rintro e W ⟨A2, c2, rfl, hS2, hst, hb⟩
  clear C
  dsimp only [dval]
  dsimp only at hst hS2
  have b4 := (Bx.new2 w _ _ _ _ _ _ _).keep hb
  have hB := (three_ _ _ _).trans (hb.mono (three_ (w := w) _ _ _).size)
  have hap := hst (w.heap.size + 1 + 1) (by simp) (hx.apart (by omega))
  have hst2 : Stays w.heap.size A xs A2 xs2 := fun b h k => hst b (by simp; omega) k
  have hz0 : w.heap.size < W.heap.size := by have := b4.lt; omega
  have hz1 : w.heap.size + 1 < W.heap.size := by have := b4.lt; omega
  clear hb hst
  have hz2 := b4.lt
  obtain ⟨-, j0, j1, j2, j3, j4, jf⟩ := b4
  go_wp2
  refine bodyPost_ret (v := .tuple #[.agg #[.int .i64 s2, .slice A2 xs2.length c2, .int .i64 du2, .int .i64 le2, .bool dn2], .int .i64 x]) (by simp only [results, Try.results13]; go_simp) rfl ⟨A2, c2, rfl, ?_, hst2, ?_⟩
  · (repeat' (first | (with_reducible exact hS2) | (with_reducible exact hap) | (with_reducible refine Sl.setCell ?_ _ _ ?_) | (with_reducible refine Sl.alloc ?_ _)))
  · (repeat' (first | (with_reducible exact hB) | (with_reducible exact Below.refl _ _) | (with_reducible refine Below.setCell ?_ ?_ _) | (with_reducible refine Below.alloc ?_ ?_ _) | (with_reducible refine Below.drew ?_) | (simp; done) | omega | (simp; omega)))

set_option maxRecDepth 100000 in
set_option maxHeartbeats 1600000 in
theorem act_crash (s : Int) (A : Option Addr) (cap : Nat) (xs : List Int) (du le : Int) (dn : Bool) (m : Int) (B : Option Addr) (cb : Nat) (ys : List Int) (w : World) (hx : Sl w A cap xs) :
    Calls Try.prog 13 #[.agg #[.int .i64 s, .slice A xs.length cap, .int .i64 du, .int .i64 le, .bool dn], .agg #[.int .i64 7, .int .i64 m, .slice B ys.length cb]] w (GivesD w A xs ((crashF ⟨s, xs, du, le, dn⟩ m, 0))) := by
  have C := Lib.hid (fun (W : World) (h : Sl W A cap xs) => crash_gives ⟨s, xs, du, le, dn⟩ A cap W h m)
  generalize crashF ⟨s, xs, du, le, dn⟩ m = r at C ⊢
  obtain ⟨s2, xs2, du2, le2, dn2⟩ := r
  go_enter Try.func13, Try.ntmps13
  go_wp2_with fail
  refine (C.out _ (hx.keep (three_ _ _ _))).mono ?_
  rintro e W ⟨A2, c2, rfl, hS2, hst, hb⟩
  clear C
  dsimp only [dval]
  dsimp only at hst hS2
  have b4 := (Bx.new2 w _ _ _ _ _ _ _).keep hb
  have hB := (three_ _ _ _).trans (hb.mono (three_ (w := w) _ _ _).size)
  have hap := hst (w.heap.size + 1 + 1) (by simp) (hx.apart (by omega))
  have hst2 : Stays w.heap.size A xs A2 xs2 := fun b h k => hst b (by simp; omega) k
  have hz0 : w.heap.size < W.heap.size := by have := b4.lt; omega
  have hz1 : w.heap.size + 1 < W.heap.size := by have := b4.lt; omega
  clear hb hst
  have hz2 := b4.lt
  obtain ⟨-, j0, j1, j2, j3, j4, jf⟩ := b4
  go_wp2
  refine bodyPost_ret (v := .tuple #[.agg #[.int .i64 s2, .slice A2 xs2.length c2, .int .i64 du2, .int .i64 le2, .bool dn2], .int .i64 0]) (by simp only [results, Try.results13]; go_simp) rfl ⟨A2, c2, rfl, ?_, hst2, ?_⟩
  · (repeat' (first | (with_reducible exact hS2) | (with_reducible exact hap) | (with_reducible refine Sl.setCell ?_ _ _ ?_) | (with_reducible refine Sl.alloc ?_ _)))
  · (repeat' (first | (with_reducible exact hB) | (with_reducible exact Below.refl _ _) | (with_reducible refine Below.setCell ?_ ?_ _) | (with_reducible refine Below.alloc ?_ ?_ _) | (with_reducible refine Below.drew ?_) | (simp; done) | omega | (simp; omega)))

set_option maxRecDepth 100000 in
set_option maxHeartbeats 1600000 in
theorem act_append (s : Int) (A : Option Addr) (cap : Nat) (xs : List Int) (du le : Int) (dn : Bool) (kd : Int) (m : Int) (B : Option Addr) (cb : Nat) (ys : List Int) (w : World) (hx : Sl w A cap xs) (hy : Sl w B cb ys) (n3 : (kd == 3) = false) (n4 : (kd == 4) = false) (n5 : (kd == 5) = false) (n6 : (kd == 6) = false) (n7 : (kd == 7) = false) :
    Calls Try.prog 13 #[.agg #[.int .i64 s, .slice A xs.length cap, .int .i64 du, .int .i64 le, .bool dn], .agg #[.int .i64 kd, .int .i64 m, .slice B ys.length cb]] w (GivesD w A xs (appF ⟨s, xs, du, le, dn⟩ ys)) := by
  have C := Lib.hid (fun (W : World) (h : Sl W A cap xs) (h2 : Sl W B cb ys) => append_gives ⟨s, xs, du, le, dn⟩ A cap W h B cb ys h2 _ rfl)
  generalize appF ⟨s, xs, du, le, dn⟩ ys = r at C ⊢
  obtain ⟨⟨s2, xs2, du2, le2, dn2⟩, x⟩ := r
  go_enter Try.func13, Try.ntmps13
  go_wp2_with fail
  refine (C.out _ (hx.keep (three_ _ _ _)) (hy.keep (three_ _ _ _))).mono ?_
  rintro e W ⟨A2, c2, rfl, hS2, hst, hb⟩
  clear C
  dsimp only [dval]
  dsimp only at hst hS2
  have b4 := (Bx.new2 w _ _ _ _ _ _ _).keep hb
  have hB := (three_ _ _ _).trans (hb.mono (three_ (w := w) _ _ _).size)
  have hap := hst (w.heap.size + 1 + 1) (by simp) (hx.apart (by omega))
  have hst2 : Stays w.heap.size A xs A2 xs2 := fun b h k => hst b (by simp; omega) k
  have hz0 : w.heap.size < W.heap.size := by have := b4.lt; omega
  have hz1 : w.heap.size + 1 < W.heap.size := by have := b4.lt; omega
  clear hb hst
  have hz2 := b4.lt
  obtain ⟨-, j0, j1, j2, j3, j4, jf⟩ := b4
  go_wp2
  refine bodyPost_ret (v := .tuple #[.agg #[.int .i64 s2, .slice A2 xs2.length c2, .int .i64 du2, .int .i64 le2, .bool dn2], .int .i64 x]) (by simp only [results, Try.results13]; go_simp) rfl ⟨A2, c2, rfl, ?_, hst2, ?_⟩
  · (repeat' (first | (with_reducible exact hS2) | (with_reducible exact hap) | (with_reducible refine Sl.setCell ?_ _ _ ?_) | (with_reducible refine Sl.alloc ?_ _)))
  · (repeat' (first | (with_reducible exact hB) | (with_reducible exact Below.refl _ _) | (with_reducible refine Below.setCell ?_ ?_ _) | (with_reducible refine Below.alloc ?_ ?_ _) | (with_reducible refine Below.drew ?_) | (simp; done) | omega | (simp; omega)))

set_option maxRecDepth 100000 in
set_option maxHeartbeats 1600000 in
theorem exp_sync3 (s : Int) (A : Option Addr) (cap : Nat) (xs : List Int) (du le : Int) (dn : Bool) (m : Int) (B : Option Addr) (cb : Nat) (ys : List Int) (w : World) (hx : Sl w A cap xs) :
    Calls Try.prog 14 #[.agg #[.int .i64 s, .slice A xs.length cap, .int .i64 du, .int .i64 le, .bool dn], .agg #[.int .i64 3, .int .i64 m, .slice B ys.length cb]] w (GivesD w A xs (syncF ⟨s, xs, du, le, dn⟩)) := by
  have C := Lib.hid (fun (W : World) (h : Sl W A cap xs) => rsync_gives ⟨s, xs, du, le, dn⟩ A cap W h)
  generalize syncF ⟨s, xs, du, le, dn⟩ = r at C ⊢
  obtain ⟨⟨s2, xs2, du2, le2, dn2⟩, x⟩ := r
  go_enter Try.func14, Try.ntmps14
  go_wp2_with fail
  refine (C.out _ (hx.keep (three_ _ _ _))).mono ?_
  rintro e W ⟨A2, c2, rfl, hS2, hst, hb⟩
  clear C
  dsimp only [dval]
  dsimp only at hst hS2
  have b4 := (Bx.new2 w _ _ _ _ _ _ _).keep hb
  have hB := (three_ _ _ _).trans (hb.mono (three_ (w := w) _ _ _).size)
  have hap := hst (w.heap.size + 1 + 1) (by simp) (hx.apart (by omega))
  have hst2 : Stays w.heap.size A xs A2 xs2 := fun b h k => hst b (by simp; omega) k
  have hz0 : w.heap.size < W.heap.size := by have := b4.lt; omega
  have hz1 : w.heap.size + 1 < W.heap.size := by have := b4.lt; omega
  clear hb hst
  have hz2 := b4.lt
  obtain ⟨-, j0, j1, j2, j3, j4, jf⟩ := b4
  go_wp2
  refine bodyPost_ret (v := .tuple #[.agg #[.int .i64 s2, .slice A2 xs2.length c2, .int .i64 du2, .int .i64 le2, .bool dn2], .int .i64 x]) (by simp only [results, Try.results14]; go_simp) rfl ⟨A2, c2, rfl, ?_, hst2, ?_⟩
  · (repeat' (first | (with_reducible exact hS2) | (with_reducible exact hap) | (with_reducible refine Sl.setCell ?_ _ _ ?_) | (with_reducible refine Sl.alloc ?_ _)))
  · (repeat' (first | (with_reducible exact hB) | (with_reducible exact Below.refl _ _) | (with_reducible refine Below.setCell ?_ ?_ _) | (with_reducible refine Below.alloc ?_ ?_ _) | (with_reducible refine Below.drew ?_) | (simp; done) | omega | (simp; omega)))

set_option maxRecDepth 100000 in
set_option maxHeartbeats 1600000 in
theorem exp_sync4 (s : Int) (A : Option Addr) (cap : Nat) (xs : List Int) (du le : Int) (dn : Bool) (m : Int) (B : Option Addr) (cb : Nat) (ys : List Int) (w : World) (hx : Sl w A cap xs) :
    Calls Try.prog 14 #[.agg #[.int .i64 s, .slice A xs.length cap, .int .i64 du, .int .i64 le, .bool dn], .agg #[.int .i64 4, .int .i64 m, .slice B ys.length cb]] w (GivesD w A xs (syncF ⟨s, xs, du, le, dn⟩)) := by
  have C := Lib.hid (fun (W : World) (h : Sl W A cap xs) => rsync_gives ⟨s, xs, du, le, dn⟩ A cap W h)
  generalize syncF ⟨s, xs, du, le, dn⟩ = r at C ⊢
  obtain ⟨⟨s2, xs2, du2, le2, dn2⟩, x⟩ := r
  go_enter Try.func14, Try.ntmps14
  go_wp2_with fail
  refine (C.out _ (hx.keep (three_ _ _ _))).mono ?_
  rintro e W ⟨A2, c2, rfl, hS2, hst, hb⟩
  clear C
  dsimp only [dval]
  dsimp only at hst hS2
  have b4 := (Bx.new2 w _ _ _ _ _ _ _).keep hb
  have hB := (three_ _ _ _).trans (hb.mono (three_ (w := w) _ _ _).size)
  have hap := hst (w.heap.size + 1 + 1) (by simp) (hx.apart (by omega))
  have hst2 : Stays w.heap.size A xs A2 xs2 := fun b h k => hst b (by simp; omega) k
  have hz0 : w.heap.size < W.heap.size := by have := b4.lt; omega
  have hz1 : w.heap.size + 1 < W.heap.size := by have := b4.lt; omega
  clear hb hst
  have hz2 := b4.lt
  obtain ⟨-, j0, j1, j2, j3, j4, jf⟩ := b4
  go_wp2
  refine bodyPost_ret (v := .tuple #[.agg #[.int .i64 s2, .slice A2 xs2.length c2, .int .i64 du2, .int .i64 le2, .bool dn2], .int .i64 x]) (by simp only [results, Try.results14]; go_simp) rfl ⟨A2, c2, rfl, ?_, hst2, ?_⟩
  · (repeat' (first | (with_reducible exact hS2) | (with_reducible exact hap) | (with_reducible refine Sl.setCell ?_ _ _ ?_) | (with_reducible refine Sl.alloc ?_ _)))
  · (repeat' (first | (with_reducible exact hB) | (with_reducible exact Below.refl _ _) | (with_reducible refine Below.setCell ?_ ?_ _) | (with_reducible refine Below.alloc ?_ ?_ _) | (with_reducible refine Below.drew ?_) | (simp; done) | omega | (simp; omega)))

set_option maxRecDepth 100000 in
set_option maxHeartbeats 1600000 in
theorem exp_trunc (s : Int) (A : Option Addr) (cap : Nat) (xs : List Int) (du le : Int) (dn : Bool) (m : Int) (B : Option Addr) (cb : Nat) (ys : List Int) (w : World) (hx : Sl w A cap xs) :
    Calls Try.prog 14 #[.agg #[.int .i64 s, .slice A xs.length cap, .int .i64 du, .int .i64 le, .bool dn], .agg #[.int .i64 5, .int .i64 m, .slice B ys.length cb]] w (GivesD w A xs (truncF ⟨s, xs, du, le, dn⟩ m)) := by
  have C := Lib.hid (fun (W : World) (h : Sl W A cap xs) => rtrunc_gives ⟨s, xs, du, le, dn⟩ A cap W h m)
  generalize truncF ⟨s, xs, du, le, dn⟩ m = r at C ⊢
  obtain ⟨⟨s2, xs2, du2, le2, dn2⟩, x⟩ := r
  go_enter Try.func14, Try.ntmps14
  go_wp2_with fail
  refine (C.out _ (hx.keep (three_ _ _ _))).mono ?_
  rintro e W ⟨A2, c2, rfl, hS2, hst, hb⟩
  clear C
  dsimp only [dval]
  dsimp only at hst hS2
  have b4 := (Bx.new2 w _ _ _ _ _ _ _).keep hb
  have hB := (three_ _ _ _).trans (hb.mono (three_ (w := w) _ _ _).size)
  have hap := hst (w.heap.size + 1 + 1) (by simp) (hx.apart (by omega))
  have hst2 : Stays w.heap.size A xs A2 xs2 := fun b h k => hst b (by simp; omega) k
  have hz0 : w.heap.size < W.heap.size := by have := b4.lt; omega
  have hz1 : w.heap.size + 1 < W.heap.size := by have := b4.lt; omega
  clear hb hst
  have hz2 := b4.lt
  obtain ⟨-, j0, j1, j2, j3, j4, jf⟩ := b4
  go_wp2
  refine bodyPost_ret (v := .tuple #[.agg #[.int .i64 s2, .slice A2 xs2.length c2, .int .i64 du2, .int .i64 le2, .bool dn2], .int .i64 x]) (by simp only [results, Try.results14]; go_simp) rfl ⟨A2, c2, rfl, ?_, hst2, ?_⟩
  · (repeat' (first | (with_reducible exact hS2) | (with_reducible exact hap) | (with_reducible refine Sl.setCell ?_ _ _ ?_) | (with_reducible refine Sl.alloc ?_ _)))
  · (repeat' (first | (with_reducible exact hB) | (with_reducible exact Below.refl _ _) | (with_reducible refine Below.setCell ?_ ?_ _) | (with_reducible refine Below.alloc ?_ ?_ _) | (with_reducible refine Below.drew ?_) | (simp; done) | omega | (simp; omega)))

set_option maxRecDepth 100000 in
set_option maxHeartbeats 1600000 in
theorem exp_arm (s : Int) (A : Option Addr) (cap : Nat) (xs : List Int) (du le : Int) (dn : Bool) (m : Int) (B : Option Addr) (cb : Nat) (ys : List Int) (w : World) (hx : Sl w A cap xs) :
    Calls Try.prog 14 #[.agg #[.int .i64 s, .slice A xs.length cap, .int .i64 du, .int .i64 le, .bool dn], .agg #[.int .i64 6, .int .i64 m, .slice B ys.length cb]] w (GivesD w A xs (armF ⟨s, xs, du, le, dn⟩ m)) := by
  have C := Lib.hid (fun (W : World) (h : Sl W A cap xs) => rarm_gives ⟨s, xs, du, le, dn⟩ A cap W h m)
  generalize armF ⟨s, xs, du, le, dn⟩ m = r at C ⊢
  obtain ⟨⟨s2, xs2, du2, le2, dn2⟩, x⟩ := r
  go_enter Try.func14, Try.ntmps14
  go_wp2_with fail
  refine (C.out _ (hx.keep (three_ _ _ _))).mono ?_
  rintro e W ⟨A2, c2, rfl, hS2, hst, hb⟩
  clear C
  dsimp only [dval]
  dsimp only at hst hS2
  have b4 := (Bx.new2 w _ _ _ _ _ _ _).keep hb
  have hB := (three_ _ _ _).trans (hb.mono (three_ (w := w) _ _ _).size)
  have hap := hst (w.heap.size + 1 + 1) (by simp) (hx.apart (by omega))
  have hst2 : Stays w.heap.size A xs A2 xs2 := fun b h k => hst b (by simp; omega) k
  have hz0 : w.heap.size < W.heap.size := by have := b4.lt; omega
  have hz1 : w.heap.size + 1 < W.heap.size := by have := b4.lt; omega
  clear hb hst
  have hz2 := b4.lt
  obtain ⟨-, j0, j1, j2, j3, j4, jf⟩ := b4
  go_wp2
  refine bodyPost_ret (v := .tuple #[.agg #[.int .i64 s2, .slice A2 xs2.length c2, .int .i64 du2, .int .i64 le2, .bool dn2], .int .i64 x]) (by simp only [results, Try.results14]; go_simp) rfl ⟨A2, c2, rfl, ?_, hst2, ?_⟩
  · (repeat' (first | (with_reducible exact hS2) | (with_reducible exact hap) | (with_reducible refine Sl.setCell ?_ _ _ ?_) | (with_reducible refine Sl.alloc ?_ _)))
  · (repeat' (first | (with_reducible exact hB) | (with_reducible exact Below.refl _ _) | (with_reducible refine Below.setCell ?_ ?_ _) | (with_reducible refine Below.alloc ?_ ?_ _) | (with_reducible refine Below.drew ?_) | (simp; done) | omega | (simp; omega)))

set_option maxRecDepth 100000 in
set_option maxHeartbeats 1600000 in
theorem exp_crash (s : Int) (A : Option Addr) (cap : Nat) (xs : List Int) (du le : Int) (dn : Bool) (m : Int) (B : Option Addr) (cb : Nat) (ys : List Int) (w : World) (hx : Sl w A cap xs) :
    Calls Try.prog 14 #[.agg #[.int .i64 s, .slice A xs.length cap, .int .i64 du, .int .i64 le, .bool dn], .agg #[.int .i64 7, .int .i64 m, .slice B ys.length cb]] w (GivesD w A xs ((crashF ⟨s, xs, du, le, dn⟩ m, 0))) := by
  have C := Lib.hid (fun (W : World) (h : Sl W A cap xs) => rcrash_gives ⟨s, xs, du, le, dn⟩ A cap W h m)
  generalize crashF ⟨s, xs, du, le, dn⟩ m = r at C ⊢
  obtain ⟨s2, xs2, du2, le2, dn2⟩ := r
  go_enter Try.func14, Try.ntmps14
  go_wp2_with fail
  refine (C.out _ (hx.keep (three_ _ _ _))).mono ?_
  rintro e W ⟨A2, c2, rfl, hS2, hst, hb⟩
  clear C
  dsimp only [dval]
  dsimp only at hst hS2
  have b4 := (Bx.new2 w _ _ _ _ _ _ _).keep hb
  have hB := (three_ _ _ _).trans (hb.mono (three_ (w := w) _ _ _).size)
  have hap := hst (w.heap.size + 1 + 1) (by simp) (hx.apart (by omega))
  have hst2 : Stays w.heap.size A xs A2 xs2 := fun b h k => hst b (by simp; omega) k
  have hz0 : w.heap.size < W.heap.size := by have := b4.lt; omega
  have hz1 : w.heap.size + 1 < W.heap.size := by have := b4.lt; omega
  clear hb hst
  have hz2 := b4.lt
  obtain ⟨-, j0, j1, j2, j3, j4, jf⟩ := b4
  go_wp2
  refine bodyPost_ret (v := .tuple #[.agg #[.int .i64 s2, .slice A2 xs2.length c2, .int .i64 du2, .int .i64 le2, .bool dn2], .int .i64 0]) (by simp only [results, Try.results14]; go_simp) rfl ⟨A2, c2, rfl, ?_, hst2, ?_⟩
  · (repeat' (first | (with_reducible exact hS2) | (with_reducible exact hap) | (with_reducible refine Sl.setCell ?_ _ _ ?_) | (with_reducible refine Sl.alloc ?_ _)))
  · (repeat' (first | (with_reducible exact hB) | (with_reducible exact Below.refl _ _) | (with_reducible refine Below.setCell ?_ ?_ _) | (with_reducible refine Below.alloc ?_ ?_ _) | (with_reducible refine Below.drew ?_) | (simp; done) | omega | (simp; omega)))

set_option maxRecDepth 100000 in
set_option maxHeartbeats 1600000 in
theorem exp_append (s : Int) (A : Option Addr) (cap : Nat) (xs : List Int) (du le : Int) (dn : Bool) (kd : Int) (m : Int) (B : Option Addr) (cb : Nat) (ys : List Int) (w : World) (hx : Sl w A cap xs) (hy : Sl w B cb ys) (hmm : ys.length ≤ 1000000) (n3 : (kd == 3) = false) (n4 : (kd == 4) = false) (n5 : (kd == 5) = false) (n6 : (kd == 6) = false) (n7 : (kd == 7) = false) :
    Calls Try.prog 14 #[.agg #[.int .i64 s, .slice A xs.length cap, .int .i64 du, .int .i64 le, .bool dn], .agg #[.int .i64 kd, .int .i64 m, .slice B ys.length cb]] w (GivesD w A xs (appF ⟨s, xs, du, le, dn⟩ ys)) := by
  have C := Lib.hid (fun (W : World) (h : Sl W A cap xs) (h2 : Sl W B cb ys) => rappend_gives ⟨s, xs, du, le, dn⟩ A cap W h B cb ys h2 _ rfl hmm)
  generalize appF ⟨s, xs, du, le, dn⟩ ys = r at C ⊢
  obtain ⟨⟨s2, xs2, du2, le2, dn2⟩, x⟩ := r
  go_enter Try.func14, Try.ntmps14
  go_wp2_with fail
  refine (C.out _ (hx.keep (three_ _ _ _)) (hy.keep (three_ _ _ _))).mono ?_
  rintro e W ⟨A2, c2, rfl, hS2, hst, hb⟩
  clear C
  dsimp only [dval]
  dsimp only at hst hS2
  have b4 := (Bx.new2 w _ _ _ _ _ _ _).keep hb
  have hB := (three_ _ _ _).trans (hb.mono (three_ (w := w) _ _ _).size)
  have hap := hst (w.heap.size + 1 + 1) (by simp) (hx.apart (by omega))
  have hst2 : Stays w.heap.size A xs A2 xs2 := fun b h k => hst b (by simp; omega) k
  have hz0 : w.heap.size < W.heap.size := by have := b4.lt; omega
  have hz1 : w.heap.size + 1 < W.heap.size := by have := b4.lt; omega
  clear hb hst
  have hz2 := b4.lt
  obtain ⟨-, j0, j1, j2, j3, j4, jf⟩ := b4
  go_wp2
  refine bodyPost_ret (v := .tuple #[.agg #[.int .i64 s2, .slice A2 xs2.length c2, .int .i64 du2, .int .i64 le2, .bool dn2], .int .i64 x]) (by simp only [results, Try.results14]; go_simp) rfl ⟨A2, c2, rfl, ?_, hst2, ?_⟩
  · (repeat' (first | (with_reducible exact hS2) | (with_reducible exact hap) | (with_reducible refine Sl.setCell ?_ _ _ ?_) | (with_reducible refine Sl.alloc ?_ _)))
  · (repeat' (first | (with_reducible exact hB) | (with_reducible exact Below.refl _ _) | (with_reducible refine Below.setCell ?_ ?_ _) | (with_reducible refine Below.alloc ?_ ?_ _) | (with_reducible refine Below.drew ?_) | (simp; done) | omega | (simp; omega)))
end Go.Proofs.Ytdchodjfgeglgaa
