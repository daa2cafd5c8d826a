/- valid and count of the statements. -/
import Derived.Test.YtalmhggbdfjalaaNm
namespace Go.Proofs.Ytalmhggbdfjalaa
open Go Go.RowKit
set_option linter.unusedVariables false
set_option linter.unusedSectionVars false
set_option linter.unusedSimpArgs false
set_option maxHeartbeats 4000000

def tmAt (l : List Td) (k : Nat) : Int := match l[k]? with
  | some t => tm t
  | none => 0
def badT (l : List Td) (k : Nat) (t : Td) : Prop := t.th < 0 ∨ 1000000000000000 < t.th ∨ t.n < 0 ∨ 1000000000000000 < t.n ∨ (t.kd = 11 ∧ (t.m < 1 ∨ 1000000000000 < t.m ∨ framesE t.st ≠ 0)) ∨ (0 < k ∧ tm t < tmAt l (k - 1))
def S22 (l : List Td) (k : Nat) : St := ⟨[.sl false 10 (tRows l), .top, .top, .int .i64 k] ++ List.replicate 77 .top, []⟩
def R22 (s : St) : Prop := s.sl[2]?.getD .top = .bool false
end Go.Proofs.Ytalmhggbdfjalaa
