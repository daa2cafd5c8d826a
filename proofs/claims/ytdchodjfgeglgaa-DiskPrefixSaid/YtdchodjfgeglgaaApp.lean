/- Contracts: Append on a disk that is ready. -/
import Derived.Test.YtdchodjfgeglgaaReady
namespace Go.Proofs.Ytdchodjfgeglgaa
open Go.ChangeShapes Go.WideShapes Go.ChangeAt Go.RowKit

set_option maxRecDepth 100000 in
set_option maxHeartbeats 1600000 in
theorem append_full (s : Int) (A : Option Addr) (n cap : Nat) (du le : Int) (B : Option Addr) (m cb : Nat) (w : World) (h : okB s n du le = true) (hm : s < n + m) :
    Calls Try.prog 18 #[.agg #[.int .i64 s, .slice A n cap, .int .i64 du, .int .i64 le, .bool false], .slice B m cb] w fun e w' => e = .returned (.tuple #[.agg #[.int .i64 0, .slice none 0 0, .int .i64 0, .int .i64 0, .bool false], .int .i64 6]) ∧ Below w.heap.size w w' := by
  have C := Lib.hid (fun W : World => ready_ok s A n cap du le W h)
  have hh := okB_iff.1 h
  obtain ⟨h1, h2, h3, -, -, -, -⟩ := hh
  clear h
  go_enter Try.func18, Try.ntmps18
  go_wp2_with fail
  refine (C.out _).mono ?_
  rintro e W ⟨rfl, hb⟩
  clear C
  have b2 := ((Bx.new w _ _ _ _ _).alloc _).keep hb
  have b4 := (Bx.new1 w _ _ _ _ _ _).keep hb
  have hB := (two_ _ _).trans (hb.mono (two_ (w := w) _ _).size)
  clear hb
  have hz0 := b2.lt
  have hz1 := b4.lt
  obtain ⟨-, k0, k1, k2, k3, k4, kf⟩ := b2
  obtain ⟨-, j0, j1, j2, j3, j4, jf⟩ := b4
  go_wp2
  refine bodyPost_ret (v := .tuple #[.agg #[.int .i64 0, .slice none 0 0, .int .i64 0, .int .i64 0, .bool false], .int .i64 6]) (by simp only [results, Try.results18]; go_simp) rfl ⟨rfl, ?_⟩
  repeat' (first | (with_reducible exact hB) | (with_reducible refine Below.setCell ?_ ?_ _) | (with_reducible refine Below.alloc ?_ ?_ _) | (with_reducible refine Below.drew ?_) | (simp; done) | omega | (simp; omega))

set_option maxRecDepth 100000 in
set_option maxHeartbeats 3200000 in
theorem append_all (s : Int) (A : Option Addr) (cap : Nat) (xs : List Int) (du le : Int) (B : Option Addr) (cb : Nat) (ys : List Int) (w : World) (h : okB s xs.length du le = true) (hm : (xs.length : Int) + ys.length ≤ s) (hle : le = -1) (hx : Sl w A cap xs) (hy : Sl w B cb ys) :
    Calls Try.prog 18 #[.agg #[.int .i64 s, .slice A xs.length cap, .int .i64 du, .int .i64 le, .bool false], .slice B ys.length cb] w fun e w' => ∃ A2 c2, e = .returned (.tuple #[.agg #[.int .i64 s, .slice A2 (xs.length + ys.length) c2, .int .i64 du, .int .i64 ((-1)), .bool false], .int .i64 0]) ∧ Sl w' A2 c2 (xs ++ ys) ∧ Stays w.heap.size A xs A2 (xs ++ ys) ∧ Below w.heap.size w w' := by
  subst hle
  have C := Lib.hid (fun W : World => ready_ok s A xs.length cap du (-1) W h)
  have hh := okB_iff.1 h
  obtain ⟨h1, h2, h3, -, -, -, h7⟩ := hh
  have hxc := hx.le
  have hxm := hx.max
  clear h
  go_enter Try.func18, Try.ntmps18
  go_wp2_with fail
  refine (C.out _).mono ?_
  rintro e W ⟨rfl, hb⟩
  clear C
  have b2 := ((Bx.new w _ _ _ _ _).alloc _).keep hb
  have b4 := (Bx.new1 w _ _ _ _ _ _).keep hb
  have hB := (two_ _ _).trans (hb.mono (two_ (w := w) _ _).size)
  clear hb
  have hz0 := b2.lt
  have hz1 := b4.lt
  obtain ⟨-, k0, k1, k2, k3, k4, kf⟩ := b2
  obtain ⟨-, j0, j1, j2, j3, j4, jf⟩ := b4
  go_wp2_with (first
    | (go_at_call 27; refine (clip_any _ _ _ _ hxc hxm).mono ?_; rintro e w' ⟨rfl, rfl⟩)
    | (at_builtin
       refine wpList_append_clip _ rfl (.tmp 51) (.tmp 52) rfl A cap xs (hx.keep (by (repeat' (first | (with_reducible exact hB) | (with_reducible refine Below.setCell ?_ ?_ _) | (with_reducible refine Below.alloc ?_ ?_ _) | (with_reducible refine Below.drew ?_) | (simp; done) | omega | (simp; omega))))) rfl B cb ys (hy.keep (by (repeat' (first | (with_reducible exact hB) | (with_reducible refine Below.setCell ?_ ?_ _) | (with_reducible refine Below.alloc ?_ ?_ _) | (with_reducible refine Below.drew ?_) | (simp; done) | omega | (simp; omega))))) rfl (by omega) ?_
       intro A2 c2 W2 hS2 hb2 hap
       have hst : Stays w.heap.size A xs A2 (xs ++ ys) := fun b hb h => hap b (by simp; omega) h
       have hap0 := hap w.heap.size (by simp; omega) (hx.apart (Nat.le_refl _))
       have hap1 := hap (w.heap.size + 1) (by simp; omega) (hx.apart (by omega))
       have hB2 : Below w.heap.size w W2 := below_step (by (repeat' (first | (with_reducible exact hB) | (with_reducible refine Below.setCell ?_ ?_ _) | (with_reducible refine Below.alloc ?_ ?_ _) | (with_reducible refine Below.drew ?_) | (simp; done) | omega | (simp; omega)))) hb2
       have b2 : Bx W2 w.heap.size _ _ _ _ _ := (Bx.alloc ⟨hz0, k0, k1, k2, k3, k4, kf⟩ _).keep hb2
       have b4 : Bx W2 (w.heap.size + 1) _ _ _ _ _ := (Bx.alloc ⟨hz1, j0, j1, j2, j3, j4, jf⟩ _).keep hb2
       clear hb2 hap k0 k1 k2 k3 k4 kf j0 j1 j2 j3 j4 jf hz0 hz1
       have hz0 := b2.lt
       have hz1 := b4.lt
       obtain ⟨-, k0, k1, k2, k3, k4, kf⟩ := b2
       obtain ⟨-, j0, j1, j2, j3, j4, jf⟩ := b4))
  refine bodyPost_ret (v := .tuple #[.agg #[.int .i64 s, .slice A2 (xs.length + ys.length) c2, .int .i64 du, .int .i64 ((-1)), .bool false], .int .i64 0]) (by simp only [results, Try.results18]; go_simp) rfl ⟨A2, c2, rfl, ?_, hst, ?_⟩
  · (repeat' (first | (with_reducible exact hS2) | (with_reducible exact hap0) | (with_reducible exact hap1) | (with_reducible refine Sl.setCell ?_ _ _ ?_) | (with_reducible refine Sl.alloc ?_ _)))
  · clear hB
    have hB := hB2
    (repeat' (first | (with_reducible exact hB) | (with_reducible refine Below.setCell ?_ ?_ _) | (with_reducible refine Below.alloc ?_ ?_ _) | (with_reducible refine Below.drew ?_) | (simp; done) | omega | (simp; omega)))

set_option maxRecDepth 100000 in
set_option maxHeartbeats 3200000 in
theorem append_le (s : Int) (A : Option Addr) (cap : Nat) (xs : List Int) (du le : Int) (B : Option Addr) (cb : Nat) (ys : List Int) (w : World) (h : okB s xs.length du le = true) (hm : (xs.length : Int) + ys.length ≤ s) (hle : (ys.length : Int) ≤ le) (hx : Sl w A cap xs) (hy : Sl w B cb ys) :
    Calls Try.prog 18 #[.agg #[.int .i64 s, .slice A xs.length cap, .int .i64 du, .int .i64 le, .bool false], .slice B ys.length cb] w fun e w' => ∃ A2 c2, e = .returned (.tuple #[.agg #[.int .i64 s, .slice A2 (xs.length + ys.length) c2, .int .i64 du, .int .i64 (le - ys.length), .bool false], .int .i64 0]) ∧ Sl w' A2 c2 (xs ++ ys) ∧ Stays w.heap.size A xs A2 (xs ++ ys) ∧ Below w.heap.size w w' := by
  have C := Lib.hid (fun W : World => ready_ok s A xs.length cap du le W h)
  have hh := okB_iff.1 h
  obtain ⟨h1, h2, h3, -, -, -, h7⟩ := hh
  have hxc := hx.le
  have hxm := hx.max
  have hn1 : (le == -1) = false := by simp; omega
  have hn2 : (le != -1) = true := by simp; omega
  have hn3 : le - ys.length ≤ 1048576 := by omega
  have hn4 : 0 ≤ le - ys.length := by omega
  clear h
  go_enter Try.func18, Try.ntmps18
  go_wp2_with fail
  refine (C.out _).mono ?_
  rintro e W ⟨rfl, hb⟩
  clear C
  have b2 := ((Bx.new w _ _ _ _ _).alloc _).keep hb
  have b4 := (Bx.new1 w _ _ _ _ _ _).keep hb
  have hB := (two_ _ _).trans (hb.mono (two_ (w := w) _ _).size)
  clear hb
  have hz0 := b2.lt
  have hz1 := b4.lt
  obtain ⟨-, k0, k1, k2, k3, k4, kf⟩ := b2
  obtain ⟨-, j0, j1, j2, j3, j4, jf⟩ := b4
  go_wp2_with (first
    | (go_at_call 27; refine (clip_any _ _ _ _ hxc hxm).mono ?_; rintro e w' ⟨rfl, rfl⟩)
    | (at_builtin
       refine wpList_append_clip _ rfl (.tmp 51) (.tmp 52) rfl A cap xs (hx.keep (by (repeat' (first | (with_reducible exact hB) | (with_reducible refine Below.setCell ?_ ?_ _) | (with_reducible refine Below.alloc ?_ ?_ _) | (with_reducible refine Below.drew ?_) | (simp; done) | omega | (simp; omega))))) rfl B cb ys (hy.keep (by (repeat' (first | (with_reducible exact hB) | (with_reducible refine Below.setCell ?_ ?_ _) | (with_reducible refine Below.alloc ?_ ?_ _) | (with_reducible refine Below.drew ?_) | (simp; done) | omega | (simp; omega))))) rfl (by omega) ?_
       intro A2 c2 W2 hS2 hb2 hap
       have hst : Stays w.heap.size A xs A2 (xs ++ ys) := fun b hb h => hap b (by simp; omega) h
       have hap0 := hap w.heap.size (by simp; omega) (hx.apart (Nat.le_refl _))
       have hap1 := hap (w.heap.size + 1) (by simp; omega) (hx.apart (by omega))
       have hB2 : Below w.heap.size w W2 := below_step (by (repeat' (first | (with_reducible exact hB) | (with_reducible refine Below.setCell ?_ ?_ _) | (with_reducible refine Below.alloc ?_ ?_ _) | (with_reducible refine Below.drew ?_) | (simp; done) | omega | (simp; omega)))) hb2
       have b2 : Bx W2 w.heap.size _ _ _ _ _ := (Bx.alloc ⟨hz0, k0, k1, k2, k3, k4, kf⟩ _).keep hb2
       have b4 : Bx W2 (w.heap.size + 1) _ _ _ _ _ := (Bx.alloc ⟨hz1, j0, j1, j2, j3, j4, jf⟩ _).keep hb2
       clear hb2 hap k0 k1 k2 k3 k4 kf j0 j1 j2 j3 j4 jf hz0 hz1
       have hz0 := b2.lt
       have hz1 := b4.lt
       obtain ⟨-, k0, k1, k2, k3, k4, kf⟩ := b2
       obtain ⟨-, j0, j1, j2, j3, j4, jf⟩ := b4))
  refine bodyPost_ret (v := .tuple #[.agg #[.int .i64 s, .slice A2 (xs.length + ys.length) c2, .int .i64 du, .int .i64 (le - ys.length), .bool false], .int .i64 0]) (by simp only [results, Try.results18]; go_simp) rfl ⟨A2, c2, rfl, ?_, hst, ?_⟩
  · (repeat' (first | (with_reducible exact hS2) | (with_reducible exact hap0) | (with_reducible exact hap1) | (with_reducible refine Sl.setCell ?_ _ _ ?_) | (with_reducible refine Sl.alloc ?_ _)))
  · clear hB
    have hB := hB2
    (repeat' (first | (with_reducible exact hB) | (with_reducible refine Below.setCell ?_ ?_ _) | (with_reducible refine Below.alloc ?_ ?_ _) | (with_reducible refine Below.drew ?_) | (simp; done) | omega | (simp; omega)))
end Go.Proofs.Ytdchodjfgeglgaa
