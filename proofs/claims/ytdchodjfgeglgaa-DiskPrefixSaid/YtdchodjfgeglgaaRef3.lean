/- Contracts of the reference's functions: Append. -/
import Derived.Test.YtdchodjfgeglgaaReady
import Derived.Test.YtdchodjfgeglgaaOwn
import Derived.Deep.Cut
namespace Go.Proofs.Ytdchodjfgeglgaa
open Go.ChangeShapes Go.WideShapes Go.ChangeAt Go.RowKit

set_option maxRecDepth 100000 in
set_option maxHeartbeats 3200000 in
theorem rappend_all (s : Int) (A : Option Addr) (cap : Nat) (xs : List Int) (du : Int) (B : Option Addr) (cb : Nat) (ys : List Int) (w : World) (h : okB s xs.length du (-1) = true) (hm : (xs.length : Int) + ys.length ≤ s) (hx : Sl w A cap xs) (hy : Sl w B cb ys) :
    Calls Try.prog 26 #[.agg #[.int .i64 s, .slice A xs.length cap, .int .i64 du, .int .i64 (-1), .bool false], .slice B ys.length cb] w fun e w' => ∃ A3 c3, e = .returned (.tuple #[.agg #[.int .i64 s, .slice A3 (xs.length + ys.length) c3, .int .i64 du, .int .i64 (-1), .bool false], .int .i64 0]) ∧ Sl w' A3 c3 (xs ++ ys) ∧ Stays w.heap.size A xs A3 (xs ++ ys) ∧ Below w.heap.size w w' := by
  have C := Lib.hid (fun W : World => rready_ok s A xs.length cap du (-1) W h)
  have hh := okB_iff.1 h
  obtain ⟨h1, h2, h3, h4, h5, h6, h7⟩ := hh
  have hxc := hx.le
  have hxm := hx.max
  have hyc := hy.le
  have hym := hy.max
  have HLX := Lib.hid (show xs.length ≤ 4000000 by omega)
  have HLY := Lib.hid (show xs.length + ys.length ≤ 4000000 by omega)
  clear h
  go_enter Try.func26, Try.ntmps26
  go_wp2_with fail
  refine (C.out _).mono ?_
  rintro e W ⟨rfl, hb⟩
  clear C
  have b2 := ((Bx.new w _ _ _ _ _).alloc _).keep hb
  have b4 := (Bx.new1 w _ _ _ _ _ _).keep hb
  have hB := (two_ _ _).trans (hb.mono (two_ (w := w) _ _).size)
  clear hb
  have hz0 := b2.lt
  have hz1 := b4.lt
  obtain ⟨-, k0, k1, k2, k3, k4, kf⟩ := b2
  obtain ⟨-, j0, j1, j2, j3, j4, jf⟩ := b4
  go_upto_region 2 with fail
  have c2 := Bx.store ⟨hz0, k0, k1, k2, k3, k4, kf⟩ (.int .i64 s) (.slice A xs.length cap) (.int .i64 du) (.int .i64 (-1)) (.bool false)
  have c4 := (Bx.far (Bx.far (Bx.far (Bx.far (Bx.far (⟨hz1, j0, j1, j2, j3, j4, jf⟩ : Bx W (w.heap.size + 1) _ _ _ _ _) ⟨w.heap.size, 0, none⟩ (.int .i64 s) (by simp)) ⟨w.heap.size, 1, none⟩ (.slice A xs.length cap) (by simp)) ⟨w.heap.size, 2, none⟩ (.int .i64 du) (by simp)) ⟨w.heap.size, 3, none⟩ (.int .i64 (-1)) (by simp)) ⟨w.heap.size, 4, none⟩ (.bool false) (by simp))
  have hB1 : Below w.heap.size w (((((W.setCell ⟨w.heap.size, 0, none⟩ (.int .i64 s)).setCell ⟨w.heap.size, 1, none⟩ (.slice A xs.length cap)).setCell ⟨w.heap.size, 2, none⟩ (.int .i64 du)).setCell ⟨w.heap.size, 3, none⟩ (.int .i64 (-1))).setCell ⟨w.heap.size, 4, none⟩ (.bool false)) := by (repeat' (first | (with_reducible exact hB) | (with_reducible refine Below.setCell ?_ ?_ _) | (with_reducible refine Below.alloc ?_ ?_ _) | (with_reducible refine Below.drew ?_) | (simp; done) | omega | (simp; omega)))
  generalize (((((W.setCell ⟨w.heap.size, 0, none⟩ (.int .i64 s)).setCell ⟨w.heap.size, 1, none⟩ (.slice A xs.length cap)).setCell ⟨w.heap.size, 2, none⟩ (.int .i64 du)).setCell ⟨w.heap.size, 3, none⟩ (.int .i64 (-1))).setCell ⟨w.heap.size, 4, none⟩ (.bool false)) = W1 at c2 c4 hB1 ⊢
  clear hB hz0 hz1 k0 k1 k2 k3 k4 kf j0 j1 j2 j3 j4 jf
  have hB := hB1
  clear hB1
  have hz0 := c2.lt
  have hz1 := c4.lt
  obtain ⟨-, k0, k1, k2, k3, k4, kf⟩ := c2
  obtain ⟨-, j0, j1, j2, j3, j4, jf⟩ := c4
  go_wp2_with (first
    | (at_builtin
       refine wpList_append_first _ rfl (.tmp 42) (.tmp 44) rfl _ _ (Own.start _) rfl A cap xs (hx.keep (by (repeat' (first | (with_reducible exact hB) | (with_reducible refine Below.setCell ?_ ?_ _) | (with_reducible refine Below.alloc ?_ ?_ _) | (with_reducible refine Below.drew ?_) | (simp; done) | omega | (simp; omega))))) _ rfl rfl HLX.out ?_
       intro A2 c2 W2 hO2 hb2
       have hB2 : Below w.heap.size w W2 := by
         have hs2 := hb2.size
         refine Below.trans ?_ (hb2.mono (by first | omega | (simp <;> omega)))
         (repeat' (first | (with_reducible exact hB) | (with_reducible refine Below.setCell ?_ ?_ _) | (with_reducible refine Below.alloc ?_ ?_ _) | (with_reducible refine Below.drew ?_) | (simp; done) | omega | (simp; omega)))
       have b2 : Bx W2 w.heap.size _ _ _ _ _ := (Bx.alloc ⟨hz0, k0, k1, k2, k3, k4, kf⟩ _).below hb2 (by first | omega | (simp <;> omega))
       have b4 : Bx W2 (w.heap.size + 1) _ _ _ _ _ := (Bx.alloc ⟨hz1, j0, j1, j2, j3, j4, jf⟩ _).below hb2 (by first | omega | (simp <;> omega))
       have g0 := Lib.hid hz0
       have g1 := Lib.hid hz1
       clear hz0 hz1 k0 k1 k2 k3 k4 kf j0 j1 j2 j3 j4 jf
       have hz0 := b2.lt
       have hz1 := b4.lt
       obtain ⟨-, k0, k1, k2, k3, k4, kf⟩ := b2
       obtain ⟨-, j0, j1, j2, j3, j4, jf⟩ := b4)
    | (at_builtin
       refine wpList_append_more _ rfl (.tmp 45) (.tmp 46) rfl _ A2 c2 xs hO2 rfl B cb ys (hy.keep hB2) ys.length rfl rfl HLY.out ?_
       intro A3 c3 W3 hO3 hb3
       have hB3 : Below w.heap.size w W3 := by
         refine Below.trans hB2 (hb3.mono ?_)
         have := g0.out
         omega
       have b2 : Bx W3 w.heap.size _ _ _ _ _ := (⟨hz0, k0, k1, k2, k3, k4, kf⟩ : Bx _ _ _ _ _ _ _).below hb3 g0.out
       have b4 : Bx W3 (w.heap.size + 1) _ _ _ _ _ := (⟨hz1, j0, j1, j2, j3, j4, jf⟩ : Bx _ _ _ _ _ _ _).below hb3 g1.out
       have hap0 := hO3.apart (b := w.heap.size) g0.out
       have hap1 := hO3.apart (b := w.heap.size + 1) g1.out
       have hst : Stays w.heap.size A xs A3 (xs ++ ys) := fun b hb _ => hO3.apart (by have := g0.out; omega)
       have hS2 := hO3.sl
       clear hb2 hb3 hz0 hz1 k0 k1 k2 k3 k4 kf j0 j1 j2 j3 j4 jf
       have hz0 := b2.lt
       have hz1 := b4.lt
       obtain ⟨-, k0, k1, k2, k3, k4, kf⟩ := b2
       obtain ⟨-, j0, j1, j2, j3, j4, jf⟩ := b4))
  refine bodyPost_ret (v := .tuple #[.agg #[.int .i64 s, .slice A3 (xs.length + ys.length) c3, .int .i64 du, .int .i64 (-1), .bool false], .int .i64 0]) (by simp only [results, Try.results26]; go_simp) rfl ⟨A3, c3, rfl, ?_, hst, ?_⟩
  · (repeat' (first | (with_reducible exact hS2) | (with_reducible exact hap0) | (with_reducible exact hap1) | (with_reducible refine Sl.setCell ?_ _ _ ?_) | (with_reducible refine Sl.alloc ?_ _)))
  · clear hB hB2
    have hB := hB3
    (repeat' (first | (with_reducible exact hB) | (with_reducible refine Below.setCell ?_ ?_ _) | (with_reducible refine Below.alloc ?_ ?_ _) | (with_reducible refine Below.drew ?_) | (simp; done) | omega | (simp; omega)))

set_option maxRecDepth 100000 in
set_option maxHeartbeats 3200000 in
theorem rappend_le (s : Int) (A : Option Addr) (cap : Nat) (xs : List Int) (du : Int) (le : Int) (B : Option Addr) (cb : Nat) (ys : List Int) (w : World) (h : okB s xs.length du le = true) (hm : (xs.length : Int) + ys.length ≤ s) (hle : (ys.length : Int) ≤ le) (hx : Sl w A cap xs) (hy : Sl w B cb ys) :
    Calls Try.prog 26 #[.agg #[.int .i64 s, .slice A xs.length cap, .int .i64 du, .int .i64 le, .bool false], .slice B ys.length cb] w fun e w' => ∃ A3 c3, e = .returned (.tuple #[.agg #[.int .i64 s, .slice A3 (xs.length + ys.length) c3, .int .i64 du, .int .i64 (le - ys.length), .bool false], .int .i64 0]) ∧ Sl w' A3 c3 (xs ++ ys) ∧ Stays w.heap.size A xs A3 (xs ++ ys) ∧ Below w.heap.size w w' := by
  have C := Lib.hid (fun W : World => rready_ok s A xs.length cap du le W h)
  have hh := okB_iff.1 h
  obtain ⟨h1, h2, h3, h4, h5, h6, h7⟩ := hh
  have hxc := hx.le
  have hxm := hx.max
  have hyc := hy.le
  have hym := hy.max
  have HLX := Lib.hid (show xs.length ≤ 4000000 by omega)
  have HLY := Lib.hid (show xs.length + ys.length ≤ 4000000 by omega)
  have hn1 : 0 ≤ le := by omega
  have hn3 : le - ys.length ≤ 1048576 := by omega
  have hn4 : 0 ≤ le - ys.length := by omega
  clear h
  go_enter Try.func26, Try.ntmps26
  go_wp2_with fail
  refine (C.out _).mono ?_
  rintro e W ⟨rfl, hb⟩
  clear C
  have b2 := ((Bx.new w _ _ _ _ _).alloc _).keep hb
  have b4 := (Bx.new1 w _ _ _ _ _ _).keep hb
  have hB := (two_ _ _).trans (hb.mono (two_ (w := w) _ _).size)
  clear hb
  have hz0 := b2.lt
  have hz1 := b4.lt
  obtain ⟨-, k0, k1, k2, k3, k4, kf⟩ := b2
  obtain ⟨-, j0, j1, j2, j3, j4, jf⟩ := b4
  go_upto_region 2 with fail
  have c2 := Bx.store ⟨hz0, k0, k1, k2, k3, k4, kf⟩ (.int .i64 s) (.slice A xs.length cap) (.int .i64 du) (.int .i64 le) (.bool false)
  have c4 := (Bx.far (Bx.far (Bx.far (Bx.far (Bx.far (⟨hz1, j0, j1, j2, j3, j4, jf⟩ : Bx W (w.heap.size + 1) _ _ _ _ _) ⟨w.heap.size, 0, none⟩ (.int .i64 s) (by simp)) ⟨w.heap.size, 1, none⟩ (.slice A xs.length cap) (by simp)) ⟨w.heap.size, 2, none⟩ (.int .i64 du) (by simp)) ⟨w.heap.size, 3, none⟩ (.int .i64 le) (by simp)) ⟨w.heap.size, 4, none⟩ (.bool false) (by simp))
  have hB1 : Below w.heap.size w (((((W.setCell ⟨w.heap.size, 0, none⟩ (.int .i64 s)).setCell ⟨w.heap.size, 1, none⟩ (.slice A xs.length cap)).setCell ⟨w.heap.size, 2, none⟩ (.int .i64 du)).setCell ⟨w.heap.size, 3, none⟩ (.int .i64 le)).setCell ⟨w.heap.size, 4, none⟩ (.bool false)) := by (repeat' (first | (with_reducible exact hB) | (with_reducible refine Below.setCell ?_ ?_ _) | (with_reducible refine Below.alloc ?_ ?_ _) | (with_reducible refine Below.drew ?_) | (simp; done) | omega | (simp; omega)))
  generalize (((((W.setCell ⟨w.heap.size, 0, none⟩ (.int .i64 s)).setCell ⟨w.heap.size, 1, none⟩ (.slice A xs.length cap)).setCell ⟨w.heap.size, 2, none⟩ (.int .i64 du)).setCell ⟨w.heap.size, 3, none⟩ (.int .i64 le)).setCell ⟨w.heap.size, 4, none⟩ (.bool false)) = W1 at c2 c4 hB1 ⊢
  clear hB hz0 hz1 k0 k1 k2 k3 k4 kf j0 j1 j2 j3 j4 jf
  have hB := hB1
  clear hB1
  have hz0 := c2.lt
  have hz1 := c4.lt
  obtain ⟨-, k0, k1, k2, k3, k4, kf⟩ := c2
  obtain ⟨-, j0, j1, j2, j3, j4, jf⟩ := c4
  go_wp2_with (first
    | (at_builtin
       refine wpList_append_first _ rfl (.tmp 42) (.tmp 44) rfl _ _ (Own.start _) rfl A cap xs (hx.keep (by (repeat' (first | (with_reducible exact hB) | (with_reducible refine Below.setCell ?_ ?_ _) | (with_reducible refine Below.alloc ?_ ?_ _) | (with_reducible refine Below.drew ?_) | (simp; done) | omega | (simp; omega))))) _ rfl rfl HLX.out ?_
       intro A2 c2 W2 hO2 hb2
       have hB2 : Below w.heap.size w W2 := by
         have hs2 := hb2.size
         refine Below.trans ?_ (hb2.mono (by first | omega | (simp <;> omega)))
         (repeat' (first | (with_reducible exact hB) | (with_reducible refine Below.setCell ?_ ?_ _) | (with_reducible refine Below.alloc ?_ ?_ _) | (with_reducible refine Below.drew ?_) | (simp; done) | omega | (simp; omega)))
       have b2 : Bx W2 w.heap.size _ _ _ _ _ := (Bx.alloc ⟨hz0, k0, k1, k2, k3, k4, kf⟩ _).below hb2 (by first | omega | (simp <;> omega))
       have b4 : Bx W2 (w.heap.size + 1) _ _ _ _ _ := (Bx.alloc ⟨hz1, j0, j1, j2, j3, j4, jf⟩ _).below hb2 (by first | omega | (simp <;> omega))
       have g0 := Lib.hid hz0
       have g1 := Lib.hid hz1
       clear hz0 hz1 k0 k1 k2 k3 k4 kf j0 j1 j2 j3 j4 jf
       have hz0 := b2.lt
       have hz1 := b4.lt
       obtain ⟨-, k0, k1, k2, k3, k4, kf⟩ := b2
       obtain ⟨-, j0, j1, j2, j3, j4, jf⟩ := b4)
    | (at_builtin
       refine wpList_append_more _ rfl (.tmp 45) (.tmp 46) rfl _ A2 c2 xs hO2 rfl B cb ys (hy.keep hB2) ys.length rfl rfl HLY.out ?_
       intro A3 c3 W3 hO3 hb3
       have hB3 : Below w.heap.size w W3 := by
         refine Below.trans hB2 (hb3.mono ?_)
         have := g0.out
         omega
       have b2 : Bx W3 w.heap.size _ _ _ _ _ := (⟨hz0, k0, k1, k2, k3, k4, kf⟩ : Bx _ _ _ _ _ _ _).below hb3 g0.out
       have b4 : Bx W3 (w.heap.size + 1) _ _ _ _ _ := (⟨hz1, j0, j1, j2, j3, j4, jf⟩ : Bx _ _ _ _ _ _ _).below hb3 g1.out
       have hap0 := hO3.apart (b := w.heap.size) g0.out
       have hap1 := hO3.apart (b := w.heap.size + 1) g1.out
       have hst : Stays w.heap.size A xs A3 (xs ++ ys) := fun b hb _ => hO3.apart (by have := g0.out; omega)
       have hS2 := hO3.sl
       clear hb2 hb3 hz0 hz1 k0 k1 k2 k3 k4 kf j0 j1 j2 j3 j4 jf
       have hz0 := b2.lt
       have hz1 := b4.lt
       obtain ⟨-, k0, k1, k2, k3, k4, kf⟩ := b2
       obtain ⟨-, j0, j1, j2, j3, j4, jf⟩ := b4))
  refine bodyPost_ret (v := .tuple #[.agg #[.int .i64 s, .slice A3 (xs.length + ys.length) c3, .int .i64 du, .int .i64 (le - ys.length), .bool false], .int .i64 0]) (by simp only [results, Try.results26]; go_simp) rfl ⟨A3, c3, rfl, ?_, hst, ?_⟩
  · (repeat' (first | (with_reducible exact hS2) | (with_reducible exact hap0) | (with_reducible exact hap1) | (with_reducible refine Sl.setCell ?_ _ _ ?_) | (with_reducible refine Sl.alloc ?_ _)))
  · clear hB hB2
    have hB := hB3
    (repeat' (first | (with_reducible exact hB) | (with_reducible refine Below.setCell ?_ ?_ _) | (with_reducible refine Below.alloc ?_ ?_ _) | (with_reducible refine Below.drew ?_) | (simp; done) | omega | (simp; omega)))

set_option maxRecDepth 100000 in
set_option maxHeartbeats 3200000 in
theorem rappend_cut (s : Int) (A : Option Addr) (cap : Nat) (xs : List Int) (du : Int) (k : Nat) (B : Option Addr) (cb : Nat) (ys : List Int) (w : World) (h : okB s xs.length du k = true) (hm : (xs.length : Int) + ys.length ≤ s) (hle : k < ys.length) (hx : Sl w A cap xs) (hy : Sl w B cb ys) :
    Calls Try.prog 26 #[.agg #[.int .i64 s, .slice A xs.length cap, .int .i64 du, .int .i64 k, .bool false], .slice B ys.length cb] w fun e w' => ∃ A3 c3, e = .returned (.tuple #[.agg #[.int .i64 s, .slice A3 (xs.length + k) c3, .int .i64 du, .int .i64 0, .bool true], .int .i64 19]) ∧ Sl w' A3 c3 (xs ++ (ys.take k)) ∧ Stays w.heap.size A xs A3 (xs ++ (ys.take k)) ∧ Below w.heap.size w w' := by
  have C := Lib.hid (fun W : World => rready_ok s A xs.length cap du k W h)
  have hh := okB_iff.1 h
  obtain ⟨h1, h2, h3, h4, h5, h6, h7⟩ := hh
  have hxc := hx.le
  have hxm := hx.max
  have hyc := hy.le
  have hym := hy.max
  have HLX := Lib.hid (show xs.length ≤ 4000000 by omega)
  have HLY := Lib.hid (show xs.length + (ys.take k).length ≤ 4000000 by rw [List.length_take]; omega)
  have HK := Lib.hid (show k = (ys.take k).length by rw [List.length_take]; omega)
  have hkc : k ≤ cb := by omega
  clear h
  go_enter Try.func26, Try.ntmps26
  go_wp2_with fail
  refine (C.out _).mono ?_
  rintro e W ⟨rfl, hb⟩
  clear C
  have b2 := ((Bx.new w _ _ _ _ _).alloc _).keep hb
  have b4 := (Bx.new1 w _ _ _ _ _ _).keep hb
  have hB := (two_ _ _).trans (hb.mono (two_ (w := w) _ _).size)
  clear hb
  have hz0 := b2.lt
  have hz1 := b4.lt
  obtain ⟨-, k0, k1, k2, k3, k4, kf⟩ := b2
  obtain ⟨-, j0, j1, j2, j3, j4, jf⟩ := b4
  go_upto_region 2 with fail
  have c2 := Bx.store ⟨hz0, k0, k1, k2, k3, k4, kf⟩ (.int .i64 s) (.slice A xs.length cap) (.int .i64 du) (.int .i64 k) (.bool false)
  have c4 := (Bx.far (Bx.far (Bx.far (Bx.far (Bx.far (⟨hz1, j0, j1, j2, j3, j4, jf⟩ : Bx W (w.heap.size + 1) _ _ _ _ _) ⟨w.heap.size, 0, none⟩ (.int .i64 s) (by simp)) ⟨w.heap.size, 1, none⟩ (.slice A xs.length cap) (by simp)) ⟨w.heap.size, 2, none⟩ (.int .i64 du) (by simp)) ⟨w.heap.size, 3, none⟩ (.int .i64 k) (by simp)) ⟨w.heap.size, 4, none⟩ (.bool false) (by simp))
  have hB1 : Below w.heap.size w (((((W.setCell ⟨w.heap.size, 0, none⟩ (.int .i64 s)).setCell ⟨w.heap.size, 1, none⟩ (.slice A xs.length cap)).setCell ⟨w.heap.size, 2, none⟩ (.int .i64 du)).setCell ⟨w.heap.size, 3, none⟩ (.int .i64 k)).setCell ⟨w.heap.size, 4, none⟩ (.bool false)) := by (repeat' (first | (with_reducible exact hB) | (with_reducible refine Below.setCell ?_ ?_ _) | (with_reducible refine Below.alloc ?_ ?_ _) | (with_reducible refine Below.drew ?_) | (simp; done) | omega | (simp; omega)))
  generalize (((((W.setCell ⟨w.heap.size, 0, none⟩ (.int .i64 s)).setCell ⟨w.heap.size, 1, none⟩ (.slice A xs.length cap)).setCell ⟨w.heap.size, 2, none⟩ (.int .i64 du)).setCell ⟨w.heap.size, 3, none⟩ (.int .i64 k)).setCell ⟨w.heap.size, 4, none⟩ (.bool false)) = W1 at c2 c4 hB1 ⊢
  clear hB hz0 hz1 k0 k1 k2 k3 k4 kf j0 j1 j2 j3 j4 jf
  have hB := hB1
  clear hB1
  have hz0 := c2.lt
  have hz1 := c4.lt
  obtain ⟨-, k0, k1, k2, k3, k4, kf⟩ := c2
  obtain ⟨-, j0, j1, j2, j3, j4, jf⟩ := c4
  go_wp2_with (first
    | (at_builtin
       refine wpList_append_first _ rfl (.tmp 42) (.tmp 44) rfl _ _ (Own.start _) rfl A cap xs (hx.keep (by (repeat' (first | (with_reducible exact hB) | (with_reducible refine Below.setCell ?_ ?_ _) | (with_reducible refine Below.alloc ?_ ?_ _) | (with_reducible refine Below.drew ?_) | (simp; done) | omega | (simp; omega))))) _ rfl rfl HLX.out ?_
       intro A2 c2 W2 hO2 hb2
       have hB2 : Below w.heap.size w W2 := by
         have hs2 := hb2.size
         refine Below.trans ?_ (hb2.mono (by first | omega | (simp <;> omega)))
         (repeat' (first | (with_reducible exact hB) | (with_reducible refine Below.setCell ?_ ?_ _) | (with_reducible refine Below.alloc ?_ ?_ _) | (with_reducible refine Below.drew ?_) | (simp; done) | omega | (simp; omega)))
       have b2 : Bx W2 w.heap.size _ _ _ _ _ := (Bx.alloc ⟨hz0, k0, k1, k2, k3, k4, kf⟩ _).below hb2 (by first | omega | (simp <;> omega))
       have b4 : Bx W2 (w.heap.size + 1) _ _ _ _ _ := (Bx.alloc ⟨hz1, j0, j1, j2, j3, j4, jf⟩ _).below hb2 (by first | omega | (simp <;> omega))
       have g0 := Lib.hid hz0
       have g1 := Lib.hid hz1
       clear hz0 hz1 k0 k1 k2 k3 k4 kf j0 j1 j2 j3 j4 jf
       have hz0 := b2.lt
       have hz1 := b4.lt
       obtain ⟨-, k0, k1, k2, k3, k4, kf⟩ := b2
       obtain ⟨-, j0, j1, j2, j3, j4, jf⟩ := b4)
    | (at_builtin
       refine wpList_append_more _ rfl (.tmp 45) (.tmp 46) rfl _ A2 c2 xs hO2 rfl B cb (ys.take k) ((hy.keep hB2).take k (by rw [List.length_take]; omega) hym) k HK.out rfl HLY.out ?_
       intro A3 c3 W3 hO3 hb3
       have hB3 : Below w.heap.size w W3 := by
         refine Below.trans hB2 (hb3.mono ?_)
         have := g0.out
         omega
       have b2 : Bx W3 w.heap.size _ _ _ _ _ := (⟨hz0, k0, k1, k2, k3, k4, kf⟩ : Bx _ _ _ _ _ _ _).below hb3 g0.out
       have b4 : Bx W3 (w.heap.size + 1) _ _ _ _ _ := (⟨hz1, j0, j1, j2, j3, j4, jf⟩ : Bx _ _ _ _ _ _ _).below hb3 g1.out
       have hap0 := hO3.apart (b := w.heap.size) g0.out
       have hap1 := hO3.apart (b := w.heap.size + 1) g1.out
       have hst : Stays w.heap.size A xs A3 (xs ++ (ys.take k)) := fun b hb _ => hO3.apart (by have := g0.out; omega)
       have hS2 := hO3.sl
       clear hb2 hb3 hz0 hz1 k0 k1 k2 k3 k4 kf j0 j1 j2 j3 j4 jf
       have hz0 := b2.lt
       have hz1 := b4.lt
       obtain ⟨-, k0, k1, k2, k3, k4, kf⟩ := b2
       obtain ⟨-, j0, j1, j2, j3, j4, jf⟩ := b4))
  refine bodyPost_ret (v := .tuple #[.agg #[.int .i64 s, .slice A3 (xs.length + k) c3, .int .i64 du, .int .i64 0, .bool true], .int .i64 19]) (by simp only [results, Try.results26]; go_simp) rfl ⟨A3, c3, rfl, ?_, hst, ?_⟩
  · (repeat' (first | (with_reducible exact hS2) | (with_reducible exact hap0) | (with_reducible exact hap1) | (with_reducible refine Sl.setCell ?_ _ _ ?_) | (with_reducible refine Sl.alloc ?_ _)))
  · clear hB hB2
    have hB := hB3
    (repeat' (first | (with_reducible exact hB) | (with_reducible refine Below.setCell ?_ ?_ _) | (with_reducible refine Below.alloc ?_ ?_ _) | (with_reducible refine Below.drew ?_) | (simp; done) | omega | (simp; omega)))
end Go.Proofs.Ytdchodjfgeglgaa
