/- Contracts: Check, ready, New and Clip, of the program and of the reference. -/
import Derived.Test.YtdchodjfgeglgaaBase
namespace Go.Proofs.Ytdchodjfgeglgaa
open Go.ChangeShapes Go.WideShapes Go.ChangeAt Go.RowKit

def okB (s : Int) (n : Nat) (du le : Int) : Bool := decide (1 ≤ s ∧ s ≤ 1048576 ∧ (n : Int) ≤ s ∧ 0 ≤ du ∧ du ≤ n ∧ -1 ≤ le ∧ le ≤ 1048576)
theorem okB_iff {s : Int} {n : Nat} {du le : Int} : okB s n du le = true ↔ (1 ≤ s ∧ s ≤ 1048576 ∧ (n : Int) ≤ s ∧ 0 ≤ du ∧ du ≤ n ∧ -1 ≤ le ∧ le ≤ 1048576) := by
  unfold okB; exact decide_eq_true_iff
theorem okB_not {s : Int} {n : Nat} {du le : Int} (h : okB s n du le = false) : ¬ (1 ≤ s ∧ s ≤ 1048576 ∧ (n : Int) ≤ s ∧ 0 ≤ du ∧ du ≤ n ∧ -1 ≤ le ∧ le ≤ 1048576) := by
  unfold okB at h; exact of_decide_eq_false h
theorem okD_okB (d : Dk) : okD d = okB d.size d.data.length d.dur d.left := rfl
theorem ret_int {k : IntKind} {a b : Int} (h : a = b) : Ending.returned (.int k a) = .returned (.int k b) := by rw [h]

set_option maxRecDepth 100000 in
set_option maxHeartbeats 1600000 in
theorem check_ok (s : Int) (A : Option Addr) (n cap : Nat) (du le : Int) (dn : Bool) (w : World) (h : okB s n du le = true) :
    Calls Try.prog 15 #[.agg #[.int .i64 s, .slice A n cap, .int .i64 du, .int .i64 le, .bool dn]] w fun e w' => e = .returned (.int .i64 0) ∧ Below w.heap.size w w' := by
  obtain ⟨h1, h2, h3, h4, h5, h6, h7⟩ := okB_iff.1 h
  clear h
  go_enter Try.func15, Try.ntmps15
  go_wp2
  go_ret
  exact ⟨rfl, one_ _⟩

set_option maxRecDepth 100000 in
set_option maxHeartbeats 3200000 in
theorem check_bad (s : Int) (A : Option Addr) (n cap : Nat) (du le : Int) (dn : Bool) (w : World) (h : okB s n du le = false) :
    Calls Try.prog 15 #[.agg #[.int .i64 s, .slice A n cap, .int .i64 du, .int .i64 le, .bool dn]] w fun e w' => e = .returned (.int .i64 2) ∧ Below w.heap.size w w' := by
  have hn := okB_not h
  clear h
  by_cases c0 : 1 ≤ s
  rotate_left
  · clear hn
    have k : s < 1 := by omega
    clear c0
    go_enter Try.func15, Try.ntmps15
    go_wp2
    go_ret
    exact ⟨rfl, one_ _⟩
  by_cases c1 : s ≤ 1048576
  rotate_left
  · clear hn
    have k : 1048576 < s := by omega
    clear c1
    go_enter Try.func15, Try.ntmps15
    go_wp2
    go_ret
    exact ⟨rfl, one_ _⟩
  by_cases c2 : (n : Int) ≤ s
  rotate_left
  · clear hn
    have k : s < (n : Int) := by omega
    clear c2
    go_enter Try.func15, Try.ntmps15
    go_wp2
    go_ret
    exact ⟨rfl, one_ _⟩
  by_cases c3 : 0 ≤ du
  rotate_left
  · clear hn
    have k : du < 0 := by omega
    clear c3
    go_enter Try.func15, Try.ntmps15
    go_wp2
    go_ret
    exact ⟨rfl, one_ _⟩
  by_cases c4 : du ≤ n
  rotate_left
  · clear hn
    have k : (n : Int) < du := by omega
    clear c4
    go_enter Try.func15, Try.ntmps15
    go_wp2
    go_ret
    exact ⟨rfl, one_ _⟩
  by_cases c5 : -1 ≤ le
  rotate_left
  · clear hn
    have k : le < -1 := by omega
    clear c5
    go_enter Try.func15, Try.ntmps15
    go_wp2
    go_ret
    exact ⟨rfl, one_ _⟩
  have k : 1048576 < le := by omega
  clear hn
  go_enter Try.func15, Try.ntmps15
  go_wp2
  go_ret
  exact ⟨rfl, one_ _⟩

set_option maxRecDepth 100000 in
set_option maxHeartbeats 1600000 in
theorem rcheck_ok (s : Int) (A : Option Addr) (n cap : Nat) (du le : Int) (dn : Bool) (w : World) (h : okB s n du le = true) :
    Calls Try.prog 16 #[.agg #[.int .i64 s, .slice A n cap, .int .i64 du, .int .i64 le, .bool dn]] w fun e w' => e = .returned (.int .i64 0) ∧ Below w.heap.size w w' := by
  obtain ⟨h1, h2, h3, h4, h5, h6, h7⟩ := okB_iff.1 h
  clear h
  go_enter Try.func16, Try.ntmps16
  go_wp2
  go_ret
  exact ⟨rfl, one_ _⟩

set_option maxRecDepth 100000 in
set_option maxHeartbeats 3200000 in
theorem rcheck_bad (s : Int) (A : Option Addr) (n cap : Nat) (du le : Int) (dn : Bool) (w : World) (h : okB s n du le = false) :
    Calls Try.prog 16 #[.agg #[.int .i64 s, .slice A n cap, .int .i64 du, .int .i64 le, .bool dn]] w fun e w' => e = .returned (.int .i64 2) ∧ Below w.heap.size w w' := by
  have hn := okB_not h
  clear h
  by_cases c0 : 1 ≤ s
  rotate_left
  · clear hn
    have k : s < 1 := by omega
    clear c0
    go_enter Try.func16, Try.ntmps16
    go_wp2
    go_ret
    exact ⟨rfl, one_ _⟩
  by_cases c1 : s ≤ 1048576
  rotate_left
  · clear hn
    have k : 1048576 < s := by omega
    clear c1
    go_enter Try.func16, Try.ntmps16
    go_wp2
    go_ret
    exact ⟨rfl, one_ _⟩
  by_cases c2 : (n : Int) ≤ s
  rotate_left
  · clear hn
    have k : s < (n : Int) := by omega
    clear c2
    go_enter Try.func16, Try.ntmps16
    go_wp2
    go_ret
    exact ⟨rfl, one_ _⟩
  by_cases c3 : 0 ≤ du
  rotate_left
  · clear hn
    have k : du < 0 := by omega
    clear c3
    go_enter Try.func16, Try.ntmps16
    go_wp2
    go_ret
    exact ⟨rfl, one_ _⟩
  by_cases c4 : du ≤ n
  rotate_left
  · clear hn
    have k : (n : Int) < du := by omega
    clear c4
    go_enter Try.func16, Try.ntmps16
    go_wp2
    go_ret
    exact ⟨rfl, one_ _⟩
  by_cases c5 : -1 ≤ le
  rotate_left
  · clear hn
    have k : le < -1 := by omega
    clear c5
    go_enter Try.func16, Try.ntmps16
    go_wp2
    go_ret
    exact ⟨rfl, one_ _⟩
  have k : 1048576 < le := by omega
  clear hn
  go_enter Try.func16, Try.ntmps16
  go_wp2
  go_ret
  exact ⟨rfl, one_ _⟩
end Go.Proofs.Ytdchodjfgeglgaa
