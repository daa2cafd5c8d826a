/- Contracts: New, Same, and what performs an operation. -/
import Derived.Test.YtdchodjfgeglgaaRAny
namespace Go.Proofs.Ytdchodjfgeglgaa
open Go.ChangeShapes Go.WideShapes Go.ChangeAt Go.RowKit
theorem Bx.new0 (W : World) (v0 v1 v2 v3 v4 : Value) : Bx (W.alloc (.cells #[v0, v1, v2, v3, v4] 27)) W.heap.size v0 v1 v2 v3 v4 := Bx.new W v0 v1 v2 v3 v4

set_option maxRecDepth 100000 in
set_option maxHeartbeats 1600000 in
theorem new_bad (s : Int) (w : World) (h : okB s 0 0 (-1) = false) :
    Calls Try.prog 10 #[.int .i64 s] w fun e w' => e = .returned (.tuple #[.agg #[.int .i64 0, .slice none 0 0, .int .i64 0, .int .i64 0, .bool false], .int .i64 2]) ∧ Below w.heap.size w w' := by
  have C := Lib.hid (fun W : World => check_bad s none 0 0 0 (-1) false W h)
  clear h
  go_enter Try.func10, Try.ntmps10
  go_wp2_with fail
  refine (C.out _).mono ?_
  rintro e W ⟨rfl, hb⟩
  clear C
  have b2 := ((Bx.new w _ _ _ _ _).alloc _).keep hb
  have b4 := (Bx.new1 w _ _ _ _ _ _).keep hb
  have hB := (two_ _ _).trans (hb.mono (two_ (w := w) _ _).size)
  clear hb
  have hz0 := b2.lt
  have hz1 := b4.lt
  obtain ⟨-, k0, k1, k2, k3, k4, kf⟩ := b2
  obtain ⟨-, j0, j1, j2, j3, j4, jf⟩ := b4
  go_wp2
  refine bodyPost_ret (v := .tuple #[.agg #[.int .i64 0, .slice none 0 0, .int .i64 0, .int .i64 0, .bool false], .int .i64 2]) (by simp only [results, Try.results10]; go_simp) rfl ⟨rfl, ?_⟩
  repeat' (first | (with_reducible exact hB) | (with_reducible exact Below.refl _ _) | (with_reducible refine Below.setCell ?_ ?_ _) | (with_reducible refine Below.alloc ?_ ?_ _) | (with_reducible refine Below.drew ?_) | (simp; done) | omega | (simp; omega))

set_option maxRecDepth 100000 in
set_option maxHeartbeats 1600000 in
theorem new_ok (s : Int) (w : World) (h : okB s 0 0 (-1) = true) :
    Calls Try.prog 10 #[.int .i64 s] w fun e w' => e = .returned (.tuple #[.agg #[.int .i64 s, .slice none 0 0, .int .i64 0, .int .i64 (-1), .bool false], .int .i64 0]) ∧ Below w.heap.size w w' := by
  have C := Lib.hid (fun W : World => check_ok s none 0 0 0 (-1) false W h)
  clear h
  go_enter Try.func10, Try.ntmps10
  go_wp2_with fail
  refine (C.out _).mono ?_
  rintro e W ⟨rfl, hb⟩
  clear C
  have b2 := ((Bx.new w _ _ _ _ _).alloc _).keep hb
  have b4 := (Bx.new1 w _ _ _ _ _ _).keep hb
  have hB := (two_ _ _).trans (hb.mono (two_ (w := w) _ _).size)
  clear hb
  have hz0 := b2.lt
  have hz1 := b4.lt
  obtain ⟨-, k0, k1, k2, k3, k4, kf⟩ := b2
  obtain ⟨-, j0, j1, j2, j3, j4, jf⟩ := b4
  go_wp2
  refine bodyPost_ret (v := .tuple #[.agg #[.int .i64 s, .slice none 0 0, .int .i64 0, .int .i64 (-1), .bool false], .int .i64 0]) (by simp only [results, Try.results10]; go_simp) rfl ⟨rfl, ?_⟩
  repeat' (first | (with_reducible exact hB) | (with_reducible exact Below.refl _ _) | (with_reducible refine Below.setCell ?_ ?_ _) | (with_reducible refine Below.alloc ?_ ?_ _) | (with_reducible refine Below.drew ?_) | (simp; done) | omega | (simp; omega))

set_option maxRecDepth 100000 in
set_option maxHeartbeats 1600000 in
theorem rnew_low (s : Int) (w : World) (h : s < 1) :
    Calls Try.prog 11 #[.int .i64 s] w fun e w' => e = .returned (.tuple #[.agg #[.int .i64 0, .slice none 0 0, .int .i64 0, .int .i64 0, .bool false], .int .i64 2]) ∧ Below w.heap.size w w' := by
  go_enter Try.func11, Try.ntmps11
  go_wp2
  have hB := one_ (w := w) (.cells #[.int .i64 0, .slice none 0 0, .int .i64 0, .int .i64 0, .bool false] 27)
  refine bodyPost_ret (v := .tuple #[.agg #[.int .i64 0, .slice none 0 0, .int .i64 0, .int .i64 0, .bool false], .int .i64 2]) (by simp only [results, Try.results11]; try go_simp) rfl ⟨rfl, ?_⟩
  repeat' (first | (with_reducible exact hB) | (with_reducible exact Below.refl _ _) | (with_reducible refine Below.setCell ?_ ?_ _) | (with_reducible refine Below.alloc ?_ ?_ _) | (with_reducible refine Below.drew ?_) | (simp; done) | omega | (simp; omega))

set_option maxRecDepth 100000 in
set_option maxHeartbeats 1600000 in
theorem rnew_high (s : Int) (w : World) (h : 1048576 < s) :
    Calls Try.prog 11 #[.int .i64 s] w fun e w' => e = .returned (.tuple #[.agg #[.int .i64 0, .slice none 0 0, .int .i64 0, .int .i64 0, .bool false], .int .i64 2]) ∧ Below w.heap.size w w' := by
  go_enter Try.func11, Try.ntmps11
  go_wp2
  have hB := one_ (w := w) (.cells #[.int .i64 0, .slice none 0 0, .int .i64 0, .int .i64 0, .bool false] 27)
  refine bodyPost_ret (v := .tuple #[.agg #[.int .i64 0, .slice none 0 0, .int .i64 0, .int .i64 0, .bool false], .int .i64 2]) (by simp only [results, Try.results11]; try go_simp) rfl ⟨rfl, ?_⟩
  repeat' (first | (with_reducible exact hB) | (with_reducible exact Below.refl _ _) | (with_reducible refine Below.setCell ?_ ?_ _) | (with_reducible refine Below.alloc ?_ ?_ _) | (with_reducible refine Below.drew ?_) | (simp; done) | omega | (simp; omega))

set_option maxRecDepth 100000 in
set_option maxHeartbeats 1600000 in
theorem rnew_ok (s : Int) (w : World) (h : 1 ≤ s ∧ s ≤ 1048576) :
    Calls Try.prog 11 #[.int .i64 s] w fun e w' => e = .returned (.tuple #[.agg #[.int .i64 s, .slice none 0 0, .int .i64 0, .int .i64 (-1), .bool false], .int .i64 0]) ∧ Below w.heap.size w w' := by
  obtain ⟨h1, h2⟩ := h
  go_enter Try.func11, Try.ntmps11
  go_wp2
  have hB := one_ (w := w) (.cells #[.int .i64 0, .slice none 0 0, .int .i64 0, .int .i64 0, .bool false] 27)
  refine bodyPost_ret (v := .tuple #[.agg #[.int .i64 s, .slice none 0 0, .int .i64 0, .int .i64 (-1), .bool false], .int .i64 0]) (by simp only [results, Try.results11]; try go_simp) rfl ⟨rfl, ?_⟩
  repeat' (first | (with_reducible exact hB) | (with_reducible exact Below.refl _ _) | (with_reducible refine Below.setCell ?_ ?_ _) | (with_reducible refine Below.alloc ?_ ?_ _) | (with_reducible refine Below.drew ?_) | (simp; done) | omega | (simp; omega))

theorem new_gives (s : Int) (w : World) (A0 : Option Addr) (x0 : List Int) : Calls Try.prog 10 #[.int .i64 s] w (GivesD w A0 x0 (newF s)) := by
  by_cases h : 1 ≤ s ∧ s ≤ 1048576
  · have e : newF s = (⟨s, [], 0, -1, false⟩, 0) := by unfold newF; rw [if_pos h]
    rw [e]
    refine (new_ok s w (okB_iff.2 (by simp; omega))).mono ?_
    rintro e w' ⟨rfl, hb⟩
    exact ⟨none, 0, rfl, Sl.nil w' none 0 (by decide), Stays.nil _ _ _ _, hb⟩
  · have e : newF s = (dz, 2) := by unfold newF; rw [if_neg h]
    rw [e]
    refine (new_bad s w ?_).mono fun _ _ h => gives_z h
    cases hb : okB s 0 0 (-1)
    · rfl
    · have := okB_iff.1 hb; omega
theorem rnew_gives (s : Int) (w : World) (A0 : Option Addr) (x0 : List Int) : Calls Try.prog 11 #[.int .i64 s] w (GivesD w A0 x0 (newF s)) := by
  by_cases h : 1 ≤ s ∧ s ≤ 1048576
  · have e : newF s = (⟨s, [], 0, -1, false⟩, 0) := by unfold newF; rw [if_pos h]
    rw [e]
    refine (rnew_ok s w h).mono ?_
    rintro e w' ⟨rfl, hb⟩
    exact ⟨none, 0, rfl, Sl.nil w' none 0 (by decide), Stays.nil _ _ _ _, hb⟩
  · have e : newF s = (dz, 2) := by unfold newF; rw [if_neg h]
    rw [e]
    by_cases h1 : s < 1
    · exact (rnew_low s w h1).mono fun _ _ h => gives_z h
    · exact (rnew_high s w (by omega)).mono fun _ _ h => gives_z h

set_option maxRecDepth 100000 in
set_option maxHeartbeats 1600000 in
theorem same_eq (s : Int) (xs : List Int) (du le : Int) (dn : Bool) (A A' : Option Addr) (c c' : Nat) (w : World) (hx : Sl w A c xs) (hy : Sl w A' c' xs) :
    Calls Try.prog 12 #[.agg #[.int .i64 s, .slice A xs.length c, .int .i64 du, .int .i64 le, .bool dn], .agg #[.int .i64 s, .slice A' xs.length c', .int .i64 du, .int .i64 le, .bool dn]] w fun e w' => e = .returned (.bool true) ∧ Below w.heap.size w w' := by
  have c1 := fun (X Y : Obj) => conv_row (hx.keep (two_ (w := w) X Y)).row xs.length c rfl
  have c2 := fun (X Y : Obj) => conv_row (hy.keep (two_ (w := w) X Y)).row xs.length c' rfl
  generalize strOfNums xs = S at c1 c2
  go_enter Try.func12, Try.ntmps12
  go_wp2
  go_ret
  exact ⟨rfl, two_ _ _⟩
end Go.Proofs.Ytdchodjfgeglgaa
