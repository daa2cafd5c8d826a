/- Contracts: ready, of the program and of the reference; Clip. -/
import Derived.Test.YtdchodjfgeglgaaChk
namespace Go.Proofs.Ytdchodjfgeglgaa
open Go.ChangeShapes Go.WideShapes Go.ChangeAt Go.RowKit
theorem two_a {w : World} (A B : Obj) : Below (w.heap.size + 1 + 1) ((w.alloc A).alloc B) ((w.alloc A).alloc B) := Below.refl _ _


set_option maxRecDepth 100000 in
set_option maxHeartbeats 1600000 in
theorem clip_any (A : Option Addr) (n cap : Nat) (w : World) (h : n ≤ cap) (_hm : cap ≤ 9223372036854775807) :
    Calls Try.prog 27 #[.slice A n cap] w fun e w' => e = .returned (.slice A n n) ∧ w = w' := by
  go_enter Try.func27, Try.ntmps27
  go_wp2
  go_ret
  exact ⟨rfl, rfl⟩

set_option maxRecDepth 100000 in
set_option maxHeartbeats 1600000 in
theorem ready_bad (s : Int) (A : Option Addr) (n cap : Nat) (du le : Int) (dn : Bool) (w : World) (h : okB s n du le = false) :
    Calls Try.prog 28 #[.agg #[.int .i64 s, .slice A n cap, .int .i64 du, .int .i64 le, .bool dn]] w fun e w' => e = .returned (.tuple #[.agg #[.int .i64 0, .slice none 0 0, .int .i64 0, .int .i64 0, .bool false], .int .i64 2]) ∧ Below w.heap.size w w' := by
  have C := Lib.hid (fun W : World => check_bad s A n cap du le dn W h)
  clear h
  go_enter Try.func28, Try.ntmps28
  go_wp2_with fail
  refine (C.out _).mono ?_
  rintro e W ⟨rfl, hb⟩
  clear C
  obtain ⟨hc, hf⟩ := bcell hb
  have hz := hb.size
  simp at hz
  have hz0 : w.heap.size < W.heap.size := by omega
  have hz1 : w.heap.size + 1 < W.heap.size := by omega
  go_wp2
  have hB := (two_ _ _).trans (hb.mono (two_ (w := w) _ _).size)
  refine bodyPost_ret (v := .tuple #[.agg #[.int .i64 0, .slice none 0 0, .int .i64 0, .int .i64 0, .bool false], .int .i64 2]) (by simp [results, Try.results28, go_sem, hc]) rfl ⟨rfl, ?_⟩
  repeat' (first | (with_reducible exact hB) | (with_reducible refine Below.setCell ?_ ?_ _) | (with_reducible refine Below.alloc ?_ ?_ _) | (with_reducible refine Below.drew ?_) | (simp; done) | (simp; omega))

set_option maxRecDepth 100000 in
set_option maxHeartbeats 1600000 in
theorem ready_down (s : Int) (A : Option Addr) (n cap : Nat) (du le : Int) (w : World) (h : okB s n du le = true) :
    Calls Try.prog 28 #[.agg #[.int .i64 s, .slice A n cap, .int .i64 du, .int .i64 le, .bool true]] w fun e w' => e = .returned (.tuple #[.agg #[.int .i64 s, .slice A n cap, .int .i64 du, .int .i64 le, .bool true], .int .i64 19]) ∧ Below w.heap.size w w' := by
  have C := Lib.hid (fun W : World => check_ok s A n cap du le true W h)
  clear h
  go_enter Try.func28, Try.ntmps28
  go_wp2_with fail
  refine (C.out _).mono ?_
  rintro e W ⟨rfl, hb⟩
  clear C
  obtain ⟨hc, hf⟩ := bcell hb
  have hz := hb.size
  simp at hz
  have hz0 : w.heap.size < W.heap.size := by omega
  have hz1 : w.heap.size + 1 < W.heap.size := by omega
  go_wp2
  have hB := (two_ _ _).trans (hb.mono (two_ (w := w) _ _).size)
  refine bodyPost_ret (v := .tuple #[.agg #[.int .i64 s, .slice A n cap, .int .i64 du, .int .i64 le, .bool true], .int .i64 19]) (by simp [results, Try.results28, go_sem, hc]) rfl ⟨rfl, ?_⟩
  repeat' (first | (with_reducible exact hB) | (with_reducible refine Below.setCell ?_ ?_ _) | (with_reducible refine Below.alloc ?_ ?_ _) | (with_reducible refine Below.drew ?_) | (simp; done) | (simp; omega))

set_option maxRecDepth 100000 in
set_option maxHeartbeats 1600000 in
theorem ready_ok (s : Int) (A : Option Addr) (n cap : Nat) (du le : Int) (w : World) (h : okB s n du le = true) :
    Calls Try.prog 28 #[.agg #[.int .i64 s, .slice A n cap, .int .i64 du, .int .i64 le, .bool false]] w fun e w' => e = .returned (.tuple #[.agg #[.int .i64 s, .slice A n cap, .int .i64 du, .int .i64 le, .bool false], .int .i64 0]) ∧ Below w.heap.size w w' := by
  have C := Lib.hid (fun W : World => check_ok s A n cap du le false W h)
  clear h
  go_enter Try.func28, Try.ntmps28
  go_wp2_with fail
  refine (C.out _).mono ?_
  rintro e W ⟨rfl, hb⟩
  clear C
  obtain ⟨hc, hf⟩ := bcell hb
  have hz := hb.size
  simp at hz
  have hz0 : w.heap.size < W.heap.size := by omega
  have hz1 : w.heap.size + 1 < W.heap.size := by omega
  go_wp2
  have hB := (two_ _ _).trans (hb.mono (two_ (w := w) _ _).size)
  refine bodyPost_ret (v := .tuple #[.agg #[.int .i64 s, .slice A n cap, .int .i64 du, .int .i64 le, .bool false], .int .i64 0]) (by simp [results, Try.results28, go_sem, hc]) rfl ⟨rfl, ?_⟩
  repeat' (first | (with_reducible exact hB) | (with_reducible refine Below.setCell ?_ ?_ _) | (with_reducible refine Below.alloc ?_ ?_ _) | (with_reducible refine Below.drew ?_) | (simp; done) | (simp; omega))

set_option maxRecDepth 100000 in
set_option maxHeartbeats 1600000 in
theorem rready_bad (s : Int) (A : Option Addr) (n cap : Nat) (du le : Int) (dn : Bool) (w : World) (h : okB s n du le = false) :
    Calls Try.prog 29 #[.agg #[.int .i64 s, .slice A n cap, .int .i64 du, .int .i64 le, .bool dn]] w fun e w' => e = .returned (.tuple #[.agg #[.int .i64 0, .slice none 0 0, .int .i64 0, .int .i64 0, .bool false], .int .i64 2]) ∧ Below w.heap.size w w' := by
  have C := Lib.hid (fun W : World => rcheck_bad s A n cap du le dn W h)
  clear h
  go_enter Try.func29, Try.ntmps29
  go_wp2_with fail
  refine (C.out _).mono ?_
  rintro e W ⟨rfl, hb⟩
  clear C
  obtain ⟨hc, hf⟩ := bcell hb
  have hz := hb.size
  simp at hz
  have hz0 : w.heap.size < W.heap.size := by omega
  have hz1 : w.heap.size + 1 < W.heap.size := by omega
  go_wp2
  have hB := (two_ _ _).trans (hb.mono (two_ (w := w) _ _).size)
  refine bodyPost_ret (v := .tuple #[.agg #[.int .i64 0, .slice none 0 0, .int .i64 0, .int .i64 0, .bool false], .int .i64 2]) (by simp [results, Try.results29, go_sem, hc]) rfl ⟨rfl, ?_⟩
  repeat' (first | (with_reducible exact hB) | (with_reducible refine Below.setCell ?_ ?_ _) | (with_reducible refine Below.alloc ?_ ?_ _) | (with_reducible refine Below.drew ?_) | (simp; done) | (simp; omega))

set_option maxRecDepth 100000 in
set_option maxHeartbeats 1600000 in
theorem rready_down (s : Int) (A : Option Addr) (n cap : Nat) (du le : Int) (w : World) (h : okB s n du le = true) :
    Calls Try.prog 29 #[.agg #[.int .i64 s, .slice A n cap, .int .i64 du, .int .i64 le, .bool true]] w fun e w' => e = .returned (.tuple #[.agg #[.int .i64 s, .slice A n cap, .int .i64 du, .int .i64 le, .bool true], .int .i64 19]) ∧ Below w.heap.size w w' := by
  have C := Lib.hid (fun W : World => rcheck_ok s A n cap du le true W h)
  clear h
  go_enter Try.func29, Try.ntmps29
  go_wp2_with fail
  refine (C.out _).mono ?_
  rintro e W ⟨rfl, hb⟩
  clear C
  obtain ⟨hc, hf⟩ := bcell hb
  have hz := hb.size
  simp at hz
  have hz0 : w.heap.size < W.heap.size := by omega
  have hz1 : w.heap.size + 1 < W.heap.size := by omega
  go_wp2
  have hB := (two_ _ _).trans (hb.mono (two_ (w := w) _ _).size)
  refine bodyPost_ret (v := .tuple #[.agg #[.int .i64 s, .slice A n cap, .int .i64 du, .int .i64 le, .bool true], .int .i64 19]) (by simp [results, Try.results29, go_sem, hc]) rfl ⟨rfl, ?_⟩
  repeat' (first | (with_reducible exact hB) | (with_reducible refine Below.setCell ?_ ?_ _) | (with_reducible refine Below.alloc ?_ ?_ _) | (with_reducible refine Below.drew ?_) | (simp; done) | (simp; omega))

set_option maxRecDepth 100000 in
set_option maxHeartbeats 1600000 in
theorem rready_ok (s : Int) (A : Option Addr) (n cap : Nat) (du le : Int) (w : World) (h : okB s n du le = true) :
    Calls Try.prog 29 #[.agg #[.int .i64 s, .slice A n cap, .int .i64 du, .int .i64 le, .bool false]] w fun e w' => e = .returned (.tuple #[.agg #[.int .i64 s, .slice A n cap, .int .i64 du, .int .i64 le, .bool false], .int .i64 0]) ∧ Below w.heap.size w w' := by
  have C := Lib.hid (fun W : World => rcheck_ok s A n cap du le false W h)
  clear h
  go_enter Try.func29, Try.ntmps29
  go_wp2_with fail
  refine (C.out _).mono ?_
  rintro e W ⟨rfl, hb⟩
  clear C
  obtain ⟨hc, hf⟩ := bcell hb
  have hz := hb.size
  simp at hz
  have hz0 : w.heap.size < W.heap.size := by omega
  have hz1 : w.heap.size + 1 < W.heap.size := by omega
  go_wp2
  have hB := (two_ _ _).trans (hb.mono (two_ (w := w) _ _).size)
  refine bodyPost_ret (v := .tuple #[.agg #[.int .i64 s, .slice A n cap, .int .i64 du, .int .i64 le, .bool false], .int .i64 0]) (by simp [results, Try.results29, go_sem, hc]) rfl ⟨rfl, ?_⟩
  repeat' (first | (with_reducible exact hB) | (with_reducible refine Below.setCell ?_ ?_ _) | (with_reducible refine Below.alloc ?_ ?_ _) | (with_reducible refine Below.drew ?_) | (simp; done) | (simp; omega))
end Go.Proofs.Ytdchodjfgeglgaa
