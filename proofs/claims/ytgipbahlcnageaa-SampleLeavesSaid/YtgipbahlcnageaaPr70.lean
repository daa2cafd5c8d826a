/- Names, frames, Check. -/
import Derived.Test.YtgipbahlcnageaaPr6
namespace Go.Proofs.Ytgipbahlcnageaa
open Go Go.RowKit
set_option linter.unusedVariables false
set_option linter.unusedSimpArgs false

def signs : List UInt8 := [95, 46, 58, 47, 60, 62, 36, 42, 126, 45]
def alnum (z : Int) : Bool := (decide (97 ≤ z) && decide (z ≤ 122)) || (decide (65 ≤ z) && decide (z ≤ 90)) || (decide (48 ≤ z) && decide (z ≤ 57))
def letterZ (z : Int) : Bool := alnum z || !signs.all fun b => !((b.toNat : Int) == z)
def nameB (c : UInt8) : Bool := letterZ c.toNat
def isB : Option PV → Bool → Bool
  | some (.bool a), b => a == b
  | _, _ => false
theorem isB_eq {x : Option PV} {b : Bool} (h : isB x b = true) : x = some (.bool b) := by
  unfold isB at h
  split at h
  · simp at h; subst h; rfl
  · cases h
theorem bytes_all : (List.range 256).all (fun n => isB (evF Dg 9 34 [.int .u8 (n : Int)]) (letterZ (n : Int))) = true := by kernel_rfl
theorem f34 (c : UInt8) : evE Dg 34 [.int .u8 (c.toNat : Int)] = some (.bool (nameB c)) := by
  have := List.all_eq_true.1 bytes_all c.toNat (List.mem_range.2 c.toNat_lt)
  exact evE_of (isB_eq this)

end Go.Proofs.Ytgipbahlcnageaa
