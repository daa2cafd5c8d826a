/- cmp.Or at three numbers: a walk. -/
import Derived.Test.YtkodjmlhmpokoaaProg
import Derived.WalkKit
namespace Go.Proofs.Ytkodjmlhmpokoaa
open Go Go.RowKit
set_option linter.unusedVariables false
set_option linter.unusedSimpArgs false

def or3 (a b c : Int) : Int := if a ≠ 0 then a else if b ≠ 0 then b else c
set_option maxHeartbeats 1000000 in
theorem or25 (x y z : Int) (g : Nat) (w : World) (h0 : w.cell? ⟨g, 0, none⟩ = some (.int .i64 x)) (h1 : w.cell? ⟨g, 1, none⟩ = some (.int .i64 y)) (h2 : w.cell? ⟨g, 2, none⟩ = some (.int .i64 z)) :
    Calls Try.prog 25 #[.slice (some ⟨g, 0, none⟩) 3 3] w fun e w' => e = .returned (.int .i64 (or3 x y z)) ∧ w' = w := by
  go_enter Try.func25, Try.ntmps25
  go_wp2
  go_loop [8] (fun i => i = .int .i64 0 ∨ (i = .int .i64 1 ∧ x = 0) ∨ (i = .int .i64 2 ∧ x = 0 ∧ y = 0) ∨ (i = .int .i64 3 ∧ x = 0 ∧ y = 0 ∧ z = 0)) (fun i => 3 - (intOf i).toNat)
  case atStart => exact .inl rfl
  case round =>
    rcases hrel with rfl | ⟨rfl, rfl⟩ | ⟨rfl, rfl, rfl⟩ | ⟨rfl, rfl, rfl, rfl⟩
    · go_wp2
      · have hx : (x != 0) = true := by assumption
        go_ret
        exact ⟨by simp at hx; simp [or3, hx], rfl⟩
      · have hx : (x != 0) = false := by assumption
        exact ⟨.inr (.inl ⟨rfl, by simpa using hx⟩), by decide⟩
    · go_wp2
      · have hx : (y != 0) = true := by assumption
        go_ret
        exact ⟨by simp at hx; simp [or3, hx], rfl⟩
      · have hx : (y != 0) = false := by assumption
        exact ⟨.inr (.inr (.inl ⟨rfl, trivial, by simpa using hx⟩)), by decide⟩
    · go_wp2
      · have hx : (z != 0) = true := by assumption
        go_ret
        exact ⟨by simp [or3], rfl⟩
      · have hx : (z != 0) = false := by assumption
        exact ⟨.inr (.inr (.inr ⟨rfl, trivial, trivial, by simpa using hx⟩)), by decide⟩
    · go_wp2
      go_ret
      exact ⟨by simp [or3], rfl⟩
end Go.Proofs.Ytkodjmlhmpokoaa
