/- Contracts of the reference's functions: Truncate and Crash. -/
import Derived.Test.YtdchodjfgeglgaaReady
import Derived.Test.YtdchodjfgeglgaaOwn
import Derived.Deep.Cut
namespace Go.Proofs.Ytdchodjfgeglgaa
open Go.ChangeShapes Go.WideShapes Go.ChangeAt Go.RowKit

set_option maxRecDepth 100000 in
set_option maxHeartbeats 3200000 in
theorem rtrunc_lt (s : Int) (A : Option Addr) (cap : Nat) (xs : List Int) (du le : Int) (k : Nat) (w : World) (h : okB s xs.length du le = true) (hk : k ≤ xs.length) (hkd : (k : Int) < du) (hx : Sl w A cap xs) :
    Calls Try.prog 23 #[.agg #[.int .i64 s, .slice A xs.length cap, .int .i64 du, .int .i64 le, .bool false], .int .i64 k] w fun e w' => ∃ A2 c2, e = .returned (.tuple #[.agg #[.int .i64 s, .slice A2 k c2, .int .i64 k, .int .i64 le, .bool false], .int .i64 0]) ∧ Sl w' A2 c2 (xs.take k) ∧ Stays w.heap.size A xs A2 (xs.take k) ∧ Below w.heap.size w w' := by
  have C := Lib.hid (fun W : World => rready_ok s A xs.length cap du le W h)
  have hh := okB_iff.1 h
  obtain ⟨h1, h2, h3, h4, h5, h6, h7⟩ := hh
  have hxc := hx.le
  have hxm := hx.max
  have htk : k = (xs.take k).length := by rw [List.length_take]; omega
  have hxk : ∀ W' : World, Below w.heap.size w W' → Sl W' A cap (xs.take k) := fun W' hb => (hx.keep hb).take k (by simp; omega) hxm
  have HK := Lib.hid htk
  have HX := Lib.hid hxk
  have HL := Lib.hid (show (xs.take k).length ≤ 4000000 by omega)
  have hkc : k ≤ cap := by omega
  clear htk hxk
  clear h
  go_enter Try.func23, Try.ntmps23
  go_wp2_with fail
  refine (C.out _).mono ?_
  rintro e W ⟨rfl, hb⟩
  clear C
  have b2 := ((Bx.new w _ _ _ _ _).alloc _).keep hb
  have b4 := (Bx.new1 w _ _ _ _ _ _).keep hb
  have hB := (two_ _ _).trans (hb.mono (two_ (w := w) _ _).size)
  clear hb
  have hz0 := b2.lt
  have hz1 := b4.lt
  obtain ⟨-, k0, k1, k2, k3, k4, kf⟩ := b2
  obtain ⟨-, j0, j1, j2, j3, j4, jf⟩ := b4
  go_upto_region 2 with fail
  have c2 := Bx.store ⟨hz0, k0, k1, k2, k3, k4, kf⟩ (.int .i64 s) (.slice A xs.length cap) (.int .i64 du) (.int .i64 le) (.bool false)
  have c4 := (Bx.far (Bx.far (Bx.far (Bx.far (Bx.far (⟨hz1, j0, j1, j2, j3, j4, jf⟩ : Bx W (w.heap.size + 1) _ _ _ _ _) ⟨w.heap.size, 0, none⟩ (.int .i64 s) (by simp)) ⟨w.heap.size, 1, none⟩ (.slice A xs.length cap) (by simp)) ⟨w.heap.size, 2, none⟩ (.int .i64 du) (by simp)) ⟨w.heap.size, 3, none⟩ (.int .i64 le) (by simp)) ⟨w.heap.size, 4, none⟩ (.bool false) (by simp))
  have hB1 : Below w.heap.size w (((((W.setCell ⟨w.heap.size, 0, none⟩ (.int .i64 s)).setCell ⟨w.heap.size, 1, none⟩ (.slice A xs.length cap)).setCell ⟨w.heap.size, 2, none⟩ (.int .i64 du)).setCell ⟨w.heap.size, 3, none⟩ (.int .i64 le)).setCell ⟨w.heap.size, 4, none⟩ (.bool false)) := by (repeat' (first | (with_reducible exact hB) | (with_reducible refine Below.setCell ?_ ?_ _) | (with_reducible refine Below.alloc ?_ ?_ _) | (with_reducible refine Below.drew ?_) | (simp; done) | omega | (simp; omega)))
  generalize (((((W.setCell ⟨w.heap.size, 0, none⟩ (.int .i64 s)).setCell ⟨w.heap.size, 1, none⟩ (.slice A xs.length cap)).setCell ⟨w.heap.size, 2, none⟩ (.int .i64 du)).setCell ⟨w.heap.size, 3, none⟩ (.int .i64 le)).setCell ⟨w.heap.size, 4, none⟩ (.bool false)) = W1 at c2 c4 hB1 ⊢
  clear hB hz0 hz1 k0 k1 k2 k3 k4 kf j0 j1 j2 j3 j4 jf
  have hB := hB1
  clear hB1
  have hz0 := c2.lt
  have hz1 := c4.lt
  obtain ⟨-, k0, k1, k2, k3, k4, kf⟩ := c2
  obtain ⟨-, j0, j1, j2, j3, j4, jf⟩ := c4
  go_wp2_with (first
    | (at_builtin
       refine wpList_append_first _ rfl (.tmp 26) (.tmp 30) rfl _ _ (Own.start _) rfl A cap (xs.take k) (HX.out _ (by (repeat' (first | (with_reducible exact hB) | (with_reducible refine Below.setCell ?_ ?_ _) | (with_reducible refine Below.alloc ?_ ?_ _) | (with_reducible refine Below.drew ?_) | (simp; done) | omega | (simp; omega))))) k HK.out rfl HL.out ?_
       intro A2 c2 W2 hO2 hb2
       have hB2 : Below w.heap.size w W2 := by
         have hs2 := hb2.size
         refine Below.trans ?_ (hb2.mono (by first | omega | (simp <;> omega)))
         (repeat' (first | (with_reducible exact hB) | (with_reducible refine Below.setCell ?_ ?_ _) | (with_reducible refine Below.alloc ?_ ?_ _) | (with_reducible refine Below.drew ?_) | (simp; done) | omega | (simp; omega)))
       have b2 : Bx W2 w.heap.size _ _ _ _ _ := (Bx.alloc ⟨hz0, k0, k1, k2, k3, k4, kf⟩ _).below hb2 (by first | omega | (simp <;> omega))
       have b4 : Bx W2 (w.heap.size + 1) _ _ _ _ _ := (Bx.alloc ⟨hz1, j0, j1, j2, j3, j4, jf⟩ _).below hb2 (by first | omega | (simp <;> omega))
       have hap0 := hO2.apart (b := w.heap.size) (by first | omega | (simp <;> omega))
       have hap1 := hO2.apart (b := w.heap.size + 1) (by first | omega | (simp <;> omega))
       have hst : Stays w.heap.size A xs A2 (xs.take k) := fun b hb _ => hO2.apart (by first | omega | (simp <;> omega))
       have hS2 := hO2.sl
       clear hb2 k0 k1 k2 k3 k4 kf j0 j1 j2 j3 j4 jf hz0 hz1
       have hz0 := b2.lt
       have hz1 := b4.lt
       obtain ⟨-, k0, k1, k2, k3, k4, kf⟩ := b2
       obtain ⟨-, j0, j1, j2, j3, j4, jf⟩ := b4))
  refine bodyPost_ret (v := .tuple #[.agg #[.int .i64 s, .slice A2 k c2, .int .i64 k, .int .i64 le, .bool false], .int .i64 0]) (by simp only [results, Try.results23]; go_simp) rfl ⟨A2, c2, rfl, ?_, hst, ?_⟩
  · (repeat' (first | (with_reducible exact hS2) | (with_reducible exact hap0) | (with_reducible exact hap1) | (with_reducible refine Sl.setCell ?_ _ _ ?_) | (with_reducible refine Sl.alloc ?_ _)))
  · clear hB
    have hB := hB2
    (repeat' (first | (with_reducible exact hB) | (with_reducible refine Below.setCell ?_ ?_ _) | (with_reducible refine Below.alloc ?_ ?_ _) | (with_reducible refine Below.drew ?_) | (simp; done) | omega | (simp; omega)))

set_option maxRecDepth 100000 in
set_option maxHeartbeats 3200000 in
theorem rtrunc_ge (s : Int) (A : Option Addr) (cap : Nat) (xs : List Int) (du le : Int) (k : Nat) (w : World) (h : okB s xs.length du le = true) (hk : k ≤ xs.length) (hkd : du ≤ k) (hx : Sl w A cap xs) :
    Calls Try.prog 23 #[.agg #[.int .i64 s, .slice A xs.length cap, .int .i64 du, .int .i64 le, .bool false], .int .i64 k] w fun e w' => ∃ A2 c2, e = .returned (.tuple #[.agg #[.int .i64 s, .slice A2 k c2, .int .i64 du, .int .i64 le, .bool false], .int .i64 0]) ∧ Sl w' A2 c2 (xs.take k) ∧ Stays w.heap.size A xs A2 (xs.take k) ∧ Below w.heap.size w w' := by
  have C := Lib.hid (fun W : World => rready_ok s A xs.length cap du le W h)
  have hh := okB_iff.1 h
  obtain ⟨h1, h2, h3, h4, h5, h6, h7⟩ := hh
  have hxc := hx.le
  have hxm := hx.max
  have htk : k = (xs.take k).length := by rw [List.length_take]; omega
  have hxk : ∀ W' : World, Below w.heap.size w W' → Sl W' A cap (xs.take k) := fun W' hb => (hx.keep hb).take k (by simp; omega) hxm
  have HK := Lib.hid htk
  have HX := Lib.hid hxk
  have HL := Lib.hid (show (xs.take k).length ≤ 4000000 by omega)
  have hkc : k ≤ cap := by omega
  clear htk hxk
  clear h
  go_enter Try.func23, Try.ntmps23
  go_wp2_with fail
  refine (C.out _).mono ?_
  rintro e W ⟨rfl, hb⟩
  clear C
  have b2 := ((Bx.new w _ _ _ _ _).alloc _).keep hb
  have b4 := (Bx.new1 w _ _ _ _ _ _).keep hb
  have hB := (two_ _ _).trans (hb.mono (two_ (w := w) _ _).size)
  clear hb
  have hz0 := b2.lt
  have hz1 := b4.lt
  obtain ⟨-, k0, k1, k2, k3, k4, kf⟩ := b2
  obtain ⟨-, j0, j1, j2, j3, j4, jf⟩ := b4
  go_upto_region 2 with fail
  have c2 := Bx.store ⟨hz0, k0, k1, k2, k3, k4, kf⟩ (.int .i64 s) (.slice A xs.length cap) (.int .i64 du) (.int .i64 le) (.bool false)
  have c4 := (Bx.far (Bx.far (Bx.far (Bx.far (Bx.far (⟨hz1, j0, j1, j2, j3, j4, jf⟩ : Bx W (w.heap.size + 1) _ _ _ _ _) ⟨w.heap.size, 0, none⟩ (.int .i64 s) (by simp)) ⟨w.heap.size, 1, none⟩ (.slice A xs.length cap) (by simp)) ⟨w.heap.size, 2, none⟩ (.int .i64 du) (by simp)) ⟨w.heap.size, 3, none⟩ (.int .i64 le) (by simp)) ⟨w.heap.size, 4, none⟩ (.bool false) (by simp))
  have hB1 : Below w.heap.size w (((((W.setCell ⟨w.heap.size, 0, none⟩ (.int .i64 s)).setCell ⟨w.heap.size, 1, none⟩ (.slice A xs.length cap)).setCell ⟨w.heap.size, 2, none⟩ (.int .i64 du)).setCell ⟨w.heap.size, 3, none⟩ (.int .i64 le)).setCell ⟨w.heap.size, 4, none⟩ (.bool false)) := by (repeat' (first | (with_reducible exact hB) | (with_reducible refine Below.setCell ?_ ?_ _) | (with_reducible refine Below.alloc ?_ ?_ _) | (with_reducible refine Below.drew ?_) | (simp; done) | omega | (simp; omega)))
  generalize (((((W.setCell ⟨w.heap.size, 0, none⟩ (.int .i64 s)).setCell ⟨w.heap.size, 1, none⟩ (.slice A xs.length cap)).setCell ⟨w.heap.size, 2, none⟩ (.int .i64 du)).setCell ⟨w.heap.size, 3, none⟩ (.int .i64 le)).setCell ⟨w.heap.size, 4, none⟩ (.bool false)) = W1 at c2 c4 hB1 ⊢
  clear hB hz0 hz1 k0 k1 k2 k3 k4 kf j0 j1 j2 j3 j4 jf
  have hB := hB1
  clear hB1
  have hz0 := c2.lt
  have hz1 := c4.lt
  obtain ⟨-, k0, k1, k2, k3, k4, kf⟩ := c2
  obtain ⟨-, j0, j1, j2, j3, j4, jf⟩ := c4
  go_wp2_with (first
    | (at_builtin
       refine wpList_append_first _ rfl (.tmp 26) (.tmp 30) rfl _ _ (Own.start _) rfl A cap (xs.take k) (HX.out _ (by (repeat' (first | (with_reducible exact hB) | (with_reducible refine Below.setCell ?_ ?_ _) | (with_reducible refine Below.alloc ?_ ?_ _) | (with_reducible refine Below.drew ?_) | (simp; done) | omega | (simp; omega))))) k HK.out rfl HL.out ?_
       intro A2 c2 W2 hO2 hb2
       have hB2 : Below w.heap.size w W2 := by
         have hs2 := hb2.size
         refine Below.trans ?_ (hb2.mono (by first | omega | (simp <;> omega)))
         (repeat' (first | (with_reducible exact hB) | (with_reducible refine Below.setCell ?_ ?_ _) | (with_reducible refine Below.alloc ?_ ?_ _) | (with_reducible refine Below.drew ?_) | (simp; done) | omega | (simp; omega)))
       have b2 : Bx W2 w.heap.size _ _ _ _ _ := (Bx.alloc ⟨hz0, k0, k1, k2, k3, k4, kf⟩ _).below hb2 (by first | omega | (simp <;> omega))
       have b4 : Bx W2 (w.heap.size + 1) _ _ _ _ _ := (Bx.alloc ⟨hz1, j0, j1, j2, j3, j4, jf⟩ _).below hb2 (by first | omega | (simp <;> omega))
       have hap0 := hO2.apart (b := w.heap.size) (by first | omega | (simp <;> omega))
       have hap1 := hO2.apart (b := w.heap.size + 1) (by first | omega | (simp <;> omega))
       have hst : Stays w.heap.size A xs A2 (xs.take k) := fun b hb _ => hO2.apart (by first | omega | (simp <;> omega))
       have hS2 := hO2.sl
       clear hb2 k0 k1 k2 k3 k4 kf j0 j1 j2 j3 j4 jf hz0 hz1
       have hz0 := b2.lt
       have hz1 := b4.lt
       obtain ⟨-, k0, k1, k2, k3, k4, kf⟩ := b2
       obtain ⟨-, j0, j1, j2, j3, j4, jf⟩ := b4))
  refine bodyPost_ret (v := .tuple #[.agg #[.int .i64 s, .slice A2 k c2, .int .i64 du, .int .i64 le, .bool false], .int .i64 0]) (by simp only [results, Try.results23]; go_simp) rfl ⟨A2, c2, rfl, ?_, hst, ?_⟩
  · (repeat' (first | (with_reducible exact hS2) | (with_reducible exact hap0) | (with_reducible exact hap1) | (with_reducible refine Sl.setCell ?_ _ _ ?_) | (with_reducible refine Sl.alloc ?_ _)))
  · clear hB
    have hB := hB2
    (repeat' (first | (with_reducible exact hB) | (with_reducible refine Below.setCell ?_ ?_ _) | (with_reducible refine Below.alloc ?_ ?_ _) | (with_reducible refine Below.drew ?_) | (simp; done) | omega | (simp; omega)))

set_option maxRecDepth 100000 in
set_option maxHeartbeats 1600000 in
theorem rcrash_bad (s : Int) (A : Option Addr) (n cap : Nat) (du le : Int) (dn : Bool) (k : Int) (w : World) (h : okB s n du le = false) :
    Calls Try.prog 25 #[.agg #[.int .i64 s, .slice A n cap, .int .i64 du, .int .i64 le, .bool dn], .int .i64 k] w fun e w' => e = .returned (.agg #[.int .i64 s, .slice A n cap, .int .i64 du, .int .i64 le, .bool dn]) ∧ Below w.heap.size w w' := by
  have C := Lib.hid (fun W : World => rcheck_bad s A n cap du le dn W h)
  clear h
  go_enter Try.func25, Try.ntmps25
  go_wp2_with fail
  refine (C.out _).mono ?_
  rintro e W ⟨rfl, hb⟩
  clear C
  have b2 := ((Bx.new w _ _ _ _ _).alloc _).keep hb
  have b4 := (Bx.new1 w _ _ _ _ _ _).keep hb
  have hB := (two_ _ _).trans (hb.mono (two_ (w := w) _ _).size)
  clear hb
  have hz0 := b2.lt
  have hz1 := b4.lt
  obtain ⟨-, k0, k1, k2, k3, k4, kf⟩ := b2
  obtain ⟨-, j0, j1, j2, j3, j4, jf⟩ := b4
  go_wp2
  refine bodyPost_ret (v := .agg #[.int .i64 s, .slice A n cap, .int .i64 du, .int .i64 le, .bool dn]) (by simp only [results, Try.results25]; go_simp) rfl ⟨rfl, ?_⟩
  repeat' (first | (with_reducible exact hB) | (with_reducible refine Below.setCell ?_ ?_ _) | (with_reducible refine Below.alloc ?_ ?_ _) | (with_reducible refine Below.drew ?_) | (simp; done) | omega | (simp; omega))

set_option maxRecDepth 100000 in
set_option maxHeartbeats 3200000 in
theorem rcrash_lo (s : Int) (A : Option Addr) (cap : Nat) (xs : List Int) (du le : Int) (dn : Bool) (k : Int) (w : World) (h : okB s xs.length du le = true) (hk : k ≤ 0) (hx : Sl w A cap xs) :
    Calls Try.prog 25 #[.agg #[.int .i64 s, .slice A xs.length cap, .int .i64 du, .int .i64 le, .bool dn], .int .i64 k] w fun e w' => ∃ A2 c2, e = .returned (.agg #[.int .i64 s, .slice A2 du.toNat c2, .int .i64 du, .int .i64 (-1), .bool false]) ∧ Sl w' A2 c2 (xs.take du.toNat) ∧ Stays w.heap.size A xs A2 (xs.take du.toNat) ∧ Below w.heap.size w w' := by
  have C := Lib.hid (fun W : World => rcheck_ok s A xs.length cap du le dn W h)
  have hh := okB_iff.1 h
  obtain ⟨h1, h2, h3, h4, h5, h6, h7⟩ := hh
  have hxc := hx.le
  have hxm := hx.max
  have g0 : (du).toNat ≤ xs.length := by omega
  have htk : (du).toNat = (xs.take (du).toNat).length := by rw [List.length_take]; omega
  have hxk : ∀ W' : World, Below w.heap.size w W' → Sl W' A cap (xs.take (du).toNat) := fun W' hb => (hx.keep hb).take _ (by omega) hxm
  have HK := Lib.hid htk
  have HX := Lib.hid hxk
  have HL := Lib.hid (show (xs.take (du).toNat).length ≤ 4000000 by omega)
  clear htk hxk
  have g3 : 0 ≤ ((xs.length : Int) - du) := by omega
  have g4 : 0 ≤ du := by omega
  have g5 : du ≤ cap := by omega
  clear h
  go_enter Try.func25, Try.ntmps25
  go_wp2_with fail
  refine (C.out _).mono ?_
  rintro e W ⟨rfl, hb⟩
  clear C
  have b2 := ((Bx.new w _ _ _ _ _).alloc _).keep hb
  have b4 := (Bx.new1 w _ _ _ _ _ _).keep hb
  have hB := (two_ _ _).trans (hb.mono (two_ (w := w) _ _).size)
  clear hb
  have hz0 := b2.lt
  have hz1 := b4.lt
  obtain ⟨-, k0, k1, k2, k3, k4, kf⟩ := b2
  obtain ⟨-, j0, j1, j2, j3, j4, jf⟩ := b4
  go_wp2_with (first
    | (at_builtin
       refine wpList_append_first _ rfl (.tmp 22) (.tmp 26) rfl _ _ (Own.start _) rfl A cap (xs.take du.toNat) (HX.out _ (by (repeat' (first | (with_reducible exact hB) | (with_reducible refine Below.setCell ?_ ?_ _) | (with_reducible refine Below.alloc ?_ ?_ _) | (with_reducible refine Below.drew ?_) | (simp; done) | omega | (simp; omega))))) _ HK.out rfl HL.out ?_
       intro A2 c2 W2 hO2 hb2
       have hB2 : Below w.heap.size w W2 := by
         have hs2 := hb2.size
         refine Below.trans ?_ (hb2.mono (by first | omega | (simp <;> omega)))
         (repeat' (first | (with_reducible exact hB) | (with_reducible refine Below.setCell ?_ ?_ _) | (with_reducible refine Below.alloc ?_ ?_ _) | (with_reducible refine Below.drew ?_) | (simp; done) | omega | (simp; omega)))
       have b2 : Bx W2 w.heap.size _ _ _ _ _ := (Bx.alloc ⟨hz0, k0, k1, k2, k3, k4, kf⟩ _).below hb2 (by first | omega | (simp <;> omega))
       have b4 : Bx W2 (w.heap.size + 1) _ _ _ _ _ := (Bx.alloc ⟨hz1, j0, j1, j2, j3, j4, jf⟩ _).below hb2 (by first | omega | (simp <;> omega))
       have hap0 := hO2.apart (b := w.heap.size) (by first | omega | (simp <;> omega))
       have hap1 := hO2.apart (b := w.heap.size + 1) (by first | omega | (simp <;> omega))
       have hst : Stays w.heap.size A xs A2 (xs.take du.toNat) := fun b hb _ => hO2.apart (by first | omega | (simp <;> omega))
       have hS2 := hO2.sl
       clear hb2 k0 k1 k2 k3 k4 kf j0 j1 j2 j3 j4 jf hz0 hz1
       have hz0 := b2.lt
       have hz1 := b4.lt
       obtain ⟨-, k0, k1, k2, k3, k4, kf⟩ := b2
       obtain ⟨-, j0, j1, j2, j3, j4, jf⟩ := b4))
  refine bodyPost_ret (v := .agg #[.int .i64 s, .slice A2 du.toNat c2, .int .i64 du, .int .i64 (-1), .bool false]) (by simp only [results, Try.results25]; go_simp) rfl ⟨A2, c2, rfl, ?_, hst, ?_⟩
  · (repeat' (first | (with_reducible exact hS2) | (with_reducible exact hap0) | (with_reducible exact hap1) | (with_reducible refine Sl.setCell ?_ _ _ ?_) | (with_reducible refine Sl.alloc ?_ _)))
  · clear hB
    have hB := hB2
    (repeat' (first | (with_reducible exact hB) | (with_reducible refine Below.setCell ?_ ?_ _) | (with_reducible refine Below.alloc ?_ ?_ _) | (with_reducible refine Below.drew ?_) | (simp; done) | omega | (simp; omega)))

set_option maxRecDepth 100000 in
set_option maxHeartbeats 3200000 in
theorem rcrash_lo2 (s : Int) (A : Option Addr) (cap : Nat) (xs : List Int) (du le : Int) (dn : Bool) (k : Int) (w : World) (h : okB s xs.length du le = true) (hk : 0 < k) (hk2 : xs.length - du ≤ 0) (hx : Sl w A cap xs) :
    Calls Try.prog 25 #[.agg #[.int .i64 s, .slice A xs.length cap, .int .i64 du, .int .i64 le, .bool dn], .int .i64 k] w fun e w' => ∃ A2 c2, e = .returned (.agg #[.int .i64 s, .slice A2 du.toNat c2, .int .i64 du, .int .i64 (-1), .bool false]) ∧ Sl w' A2 c2 (xs.take du.toNat) ∧ Stays w.heap.size A xs A2 (xs.take du.toNat) ∧ Below w.heap.size w w' := by
  have C := Lib.hid (fun W : World => rcheck_ok s A xs.length cap du le dn W h)
  have hh := okB_iff.1 h
  obtain ⟨h1, h2, h3, h4, h5, h6, h7⟩ := hh
  have hxc := hx.le
  have hxm := hx.max
  have g0 : (du).toNat ≤ xs.length := by omega
  have htk : (du).toNat = (xs.take (du).toNat).length := by rw [List.length_take]; omega
  have hxk : ∀ W' : World, Below w.heap.size w W' → Sl W' A cap (xs.take (du).toNat) := fun W' hb => (hx.keep hb).take _ (by omega) hxm
  have HK := Lib.hid htk
  have HX := Lib.hid hxk
  have HL := Lib.hid (show (xs.take (du).toNat).length ≤ 4000000 by omega)
  clear htk hxk
  have g3 : 0 ≤ ((xs.length : Int) - du) := by omega
  have g4 : 0 ≤ du := by omega
  have g5 : du ≤ cap := by omega
  clear h
  go_enter Try.func25, Try.ntmps25
  go_wp2_with fail
  refine (C.out _).mono ?_
  rintro e W ⟨rfl, hb⟩
  clear C
  have b2 := ((Bx.new w _ _ _ _ _).alloc _).keep hb
  have b4 := (Bx.new1 w _ _ _ _ _ _).keep hb
  have hB := (two_ _ _).trans (hb.mono (two_ (w := w) _ _).size)
  clear hb
  have hz0 := b2.lt
  have hz1 := b4.lt
  obtain ⟨-, k0, k1, k2, k3, k4, kf⟩ := b2
  obtain ⟨-, j0, j1, j2, j3, j4, jf⟩ := b4
  go_wp2_with (first
    | (at_builtin
       refine wpList_append_first _ rfl (.tmp 22) (.tmp 26) rfl _ _ (Own.start _) rfl A cap (xs.take du.toNat) (HX.out _ (by (repeat' (first | (with_reducible exact hB) | (with_reducible refine Below.setCell ?_ ?_ _) | (with_reducible refine Below.alloc ?_ ?_ _) | (with_reducible refine Below.drew ?_) | (simp; done) | omega | (simp; omega))))) _ HK.out rfl HL.out ?_
       intro A2 c2 W2 hO2 hb2
       have hB2 : Below w.heap.size w W2 := by
         have hs2 := hb2.size
         refine Below.trans ?_ (hb2.mono (by first | omega | (simp <;> omega)))
         (repeat' (first | (with_reducible exact hB) | (with_reducible refine Below.setCell ?_ ?_ _) | (with_reducible refine Below.alloc ?_ ?_ _) | (with_reducible refine Below.drew ?_) | (simp; done) | omega | (simp; omega)))
       have b2 : Bx W2 w.heap.size _ _ _ _ _ := (Bx.alloc ⟨hz0, k0, k1, k2, k3, k4, kf⟩ _).below hb2 (by first | omega | (simp <;> omega))
       have b4 : Bx W2 (w.heap.size + 1) _ _ _ _ _ := (Bx.alloc ⟨hz1, j0, j1, j2, j3, j4, jf⟩ _).below hb2 (by first | omega | (simp <;> omega))
       have hap0 := hO2.apart (b := w.heap.size) (by first | omega | (simp <;> omega))
       have hap1 := hO2.apart (b := w.heap.size + 1) (by first | omega | (simp <;> omega))
       have hst : Stays w.heap.size A xs A2 (xs.take du.toNat) := fun b hb _ => hO2.apart (by first | omega | (simp <;> omega))
       have hS2 := hO2.sl
       clear hb2 k0 k1 k2 k3 k4 kf j0 j1 j2 j3 j4 jf hz0 hz1
       have hz0 := b2.lt
       have hz1 := b4.lt
       obtain ⟨-, k0, k1, k2, k3, k4, kf⟩ := b2
       obtain ⟨-, j0, j1, j2, j3, j4, jf⟩ := b4))
  refine bodyPost_ret (v := .agg #[.int .i64 s, .slice A2 du.toNat c2, .int .i64 du, .int .i64 (-1), .bool false]) (by simp only [results, Try.results25]; go_simp) rfl ⟨A2, c2, rfl, ?_, hst, ?_⟩
  · (repeat' (first | (with_reducible exact hS2) | (with_reducible exact hap0) | (with_reducible exact hap1) | (with_reducible refine Sl.setCell ?_ _ _ ?_) | (with_reducible refine Sl.alloc ?_ _)))
  · clear hB
    have hB := hB2
    (repeat' (first | (with_reducible exact hB) | (with_reducible refine Below.setCell ?_ ?_ _) | (with_reducible refine Below.alloc ?_ ?_ _) | (with_reducible refine Below.drew ?_) | (simp; done) | omega | (simp; omega)))

set_option maxRecDepth 100000 in
set_option maxHeartbeats 3200000 in
theorem rcrash_mid (s : Int) (A : Option Addr) (cap : Nat) (xs : List Int) (du le : Int) (dn : Bool) (k : Int) (w : World) (h : okB s xs.length du le = true) (hk : 0 < k) (hk2 : k ≤ xs.length - du) (hx : Sl w A cap xs) :
    Calls Try.prog 25 #[.agg #[.int .i64 s, .slice A xs.length cap, .int .i64 du, .int .i64 le, .bool dn], .int .i64 k] w fun e w' => ∃ A2 c2, e = .returned (.agg #[.int .i64 s, .slice A2 (du + k).toNat c2, .int .i64 (du + k), .int .i64 (-1), .bool false]) ∧ Sl w' A2 c2 (xs.take (du + k).toNat) ∧ Stays w.heap.size A xs A2 (xs.take (du + k).toNat) ∧ Below w.heap.size w w' := by
  have C := Lib.hid (fun W : World => rcheck_ok s A xs.length cap du le dn W h)
  have hh := okB_iff.1 h
  obtain ⟨h1, h2, h3, h4, h5, h6, h7⟩ := hh
  have hxc := hx.le
  have hxm := hx.max
  have g0 : ((du + k)).toNat ≤ xs.length := by omega
  have htk : ((du + k)).toNat = (xs.take ((du + k)).toNat).length := by rw [List.length_take]; omega
  have hxk : ∀ W' : World, Below w.heap.size w W' → Sl W' A cap (xs.take ((du + k)).toNat) := fun W' hb => (hx.keep hb).take _ (by omega) hxm
  have HK := Lib.hid htk
  have HX := Lib.hid hxk
  have HL := Lib.hid (show (xs.take ((du + k)).toNat).length ≤ 4000000 by omega)
  clear htk hxk
  have g3 : 0 ≤ ((xs.length : Int) - du) := by omega
  have g4 : 0 ≤ (du + k) := by omega
  have g5 : (du + k) ≤ cap := by omega
  clear h
  go_enter Try.func25, Try.ntmps25
  go_wp2_with fail
  refine (C.out _).mono ?_
  rintro e W ⟨rfl, hb⟩
  clear C
  have b2 := ((Bx.new w _ _ _ _ _).alloc _).keep hb
  have b4 := (Bx.new1 w _ _ _ _ _ _).keep hb
  have hB := (two_ _ _).trans (hb.mono (two_ (w := w) _ _).size)
  clear hb
  have hz0 := b2.lt
  have hz1 := b4.lt
  obtain ⟨-, k0, k1, k2, k3, k4, kf⟩ := b2
  obtain ⟨-, j0, j1, j2, j3, j4, jf⟩ := b4
  go_wp2_with (first
    | (at_builtin
       refine wpList_append_first _ rfl (.tmp 22) (.tmp 26) rfl _ _ (Own.start _) rfl A cap (xs.take (du + k).toNat) (HX.out _ (by (repeat' (first | (with_reducible exact hB) | (with_reducible refine Below.setCell ?_ ?_ _) | (with_reducible refine Below.alloc ?_ ?_ _) | (with_reducible refine Below.drew ?_) | (simp; done) | omega | (simp; omega))))) _ HK.out rfl HL.out ?_
       intro A2 c2 W2 hO2 hb2
       have hB2 : Below w.heap.size w W2 := by
         have hs2 := hb2.size
         refine Below.trans ?_ (hb2.mono (by first | omega | (simp <;> omega)))
         (repeat' (first | (with_reducible exact hB) | (with_reducible refine Below.setCell ?_ ?_ _) | (with_reducible refine Below.alloc ?_ ?_ _) | (with_reducible refine Below.drew ?_) | (simp; done) | omega | (simp; omega)))
       have b2 : Bx W2 w.heap.size _ _ _ _ _ := (Bx.alloc ⟨hz0, k0, k1, k2, k3, k4, kf⟩ _).below hb2 (by first | omega | (simp <;> omega))
       have b4 : Bx W2 (w.heap.size + 1) _ _ _ _ _ := (Bx.alloc ⟨hz1, j0, j1, j2, j3, j4, jf⟩ _).below hb2 (by first | omega | (simp <;> omega))
       have hap0 := hO2.apart (b := w.heap.size) (by first | omega | (simp <;> omega))
       have hap1 := hO2.apart (b := w.heap.size + 1) (by first | omega | (simp <;> omega))
       have hst : Stays w.heap.size A xs A2 (xs.take (du + k).toNat) := fun b hb _ => hO2.apart (by first | omega | (simp <;> omega))
       have hS2 := hO2.sl
       clear hb2 k0 k1 k2 k3 k4 kf j0 j1 j2 j3 j4 jf hz0 hz1
       have hz0 := b2.lt
       have hz1 := b4.lt
       obtain ⟨-, k0, k1, k2, k3, k4, kf⟩ := b2
       obtain ⟨-, j0, j1, j2, j3, j4, jf⟩ := b4))
  refine bodyPost_ret (v := .agg #[.int .i64 s, .slice A2 (du + k).toNat c2, .int .i64 (du + k), .int .i64 (-1), .bool false]) (by simp only [results, Try.results25]; go_simp) rfl ⟨A2, c2, rfl, ?_, hst, ?_⟩
  · (repeat' (first | (with_reducible exact hS2) | (with_reducible exact hap0) | (with_reducible exact hap1) | (with_reducible refine Sl.setCell ?_ _ _ ?_) | (with_reducible refine Sl.alloc ?_ _)))
  · clear hB
    have hB := hB2
    (repeat' (first | (with_reducible exact hB) | (with_reducible refine Below.setCell ?_ ?_ _) | (with_reducible refine Below.alloc ?_ ?_ _) | (with_reducible refine Below.drew ?_) | (simp; done) | omega | (simp; omega)))

set_option maxRecDepth 100000 in
set_option maxHeartbeats 3200000 in
theorem rcrash_hi (s : Int) (A : Option Addr) (cap : Nat) (xs : List Int) (du le : Int) (dn : Bool) (k : Int) (w : World) (h : okB s xs.length du le = true) (hk : 0 < xs.length - du) (hk2 : xs.length - du < k) (hx : Sl w A cap xs) :
    Calls Try.prog 25 #[.agg #[.int .i64 s, .slice A xs.length cap, .int .i64 du, .int .i64 le, .bool dn], .int .i64 k] w fun e w' => ∃ A2 c2, e = .returned (.agg #[.int .i64 s, .slice A2 (du + (xs.length - du)).toNat c2, .int .i64 (du + (xs.length - du)), .int .i64 (-1), .bool false]) ∧ Sl w' A2 c2 (xs.take (du + (xs.length - du)).toNat) ∧ Stays w.heap.size A xs A2 (xs.take (du + (xs.length - du)).toNat) ∧ Below w.heap.size w w' := by
  have C := Lib.hid (fun W : World => rcheck_ok s A xs.length cap du le dn W h)
  have hh := okB_iff.1 h
  obtain ⟨h1, h2, h3, h4, h5, h6, h7⟩ := hh
  have hxc := hx.le
  have hxm := hx.max
  have g0 : ((du + (xs.length - du))).toNat ≤ xs.length := by omega
  have htk : ((du + (xs.length - du))).toNat = (xs.take ((du + (xs.length - du))).toNat).length := by rw [List.length_take]; omega
  have hxk : ∀ W' : World, Below w.heap.size w W' → Sl W' A cap (xs.take ((du + (xs.length - du))).toNat) := fun W' hb => (hx.keep hb).take _ (by omega) hxm
  have HK := Lib.hid htk
  have HX := Lib.hid hxk
  have HL := Lib.hid (show (xs.take ((du + (xs.length - du))).toNat).length ≤ 4000000 by omega)
  clear htk hxk
  have g3 : 0 ≤ ((xs.length : Int) - du) := by omega
  have g4 : 0 ≤ (du + (xs.length - du)) := by omega
  have g5 : (du + (xs.length - du)) ≤ cap := by omega
  clear h
  go_enter Try.func25, Try.ntmps25
  go_wp2_with fail
  refine (C.out _).mono ?_
  rintro e W ⟨rfl, hb⟩
  clear C
  have b2 := ((Bx.new w _ _ _ _ _).alloc _).keep hb
  have b4 := (Bx.new1 w _ _ _ _ _ _).keep hb
  have hB := (two_ _ _).trans (hb.mono (two_ (w := w) _ _).size)
  clear hb
  have hz0 := b2.lt
  have hz1 := b4.lt
  obtain ⟨-, k0, k1, k2, k3, k4, kf⟩ := b2
  obtain ⟨-, j0, j1, j2, j3, j4, jf⟩ := b4
  go_wp2_with (first
    | (at_builtin
       refine wpList_append_first _ rfl (.tmp 22) (.tmp 26) rfl _ _ (Own.start _) rfl A cap (xs.take (du + (xs.length - du)).toNat) (HX.out _ (by (repeat' (first | (with_reducible exact hB) | (with_reducible refine Below.setCell ?_ ?_ _) | (with_reducible refine Below.alloc ?_ ?_ _) | (with_reducible refine Below.drew ?_) | (simp; done) | omega | (simp; omega))))) _ HK.out rfl HL.out ?_
       intro A2 c2 W2 hO2 hb2
       have hB2 : Below w.heap.size w W2 := by
         have hs2 := hb2.size
         refine Below.trans ?_ (hb2.mono (by first | omega | (simp <;> omega)))
         (repeat' (first | (with_reducible exact hB) | (with_reducible refine Below.setCell ?_ ?_ _) | (with_reducible refine Below.alloc ?_ ?_ _) | (with_reducible refine Below.drew ?_) | (simp; done) | omega | (simp; omega)))
       have b2 : Bx W2 w.heap.size _ _ _ _ _ := (Bx.alloc ⟨hz0, k0, k1, k2, k3, k4, kf⟩ _).below hb2 (by first | omega | (simp <;> omega))
       have b4 : Bx W2 (w.heap.size + 1) _ _ _ _ _ := (Bx.alloc ⟨hz1, j0, j1, j2, j3, j4, jf⟩ _).below hb2 (by first | omega | (simp <;> omega))
       have hap0 := hO2.apart (b := w.heap.size) (by first | omega | (simp <;> omega))
       have hap1 := hO2.apart (b := w.heap.size + 1) (by first | omega | (simp <;> omega))
       have hst : Stays w.heap.size A xs A2 (xs.take (du + (xs.length - du)).toNat) := fun b hb _ => hO2.apart (by first | omega | (simp <;> omega))
       have hS2 := hO2.sl
       clear hb2 k0 k1 k2 k3 k4 kf j0 j1 j2 j3 j4 jf hz0 hz1
       have hz0 := b2.lt
       have hz1 := b4.lt
       obtain ⟨-, k0, k1, k2, k3, k4, kf⟩ := b2
       obtain ⟨-, j0, j1, j2, j3, j4, jf⟩ := b4))
  refine bodyPost_ret (v := .agg #[.int .i64 s, .slice A2 (du + (xs.length - du)).toNat c2, .int .i64 (du + (xs.length - du)), .int .i64 (-1), .bool false]) (by simp only [results, Try.results25]; go_simp) rfl ⟨A2, c2, rfl, ?_, hst, ?_⟩
  · (repeat' (first | (with_reducible exact hS2) | (with_reducible exact hap0) | (with_reducible exact hap1) | (with_reducible refine Sl.setCell ?_ _ _ ?_) | (with_reducible refine Sl.alloc ?_ _)))
  · clear hB
    have hB := hB2
    (repeat' (first | (with_reducible exact hB) | (with_reducible refine Below.setCell ?_ ?_ _) | (with_reducible refine Below.alloc ?_ ?_ _) | (with_reducible refine Below.drew ?_) | (simp; done) | omega | (simp; omega)))
end Go.Proofs.Ytdchodjfgeglgaa
