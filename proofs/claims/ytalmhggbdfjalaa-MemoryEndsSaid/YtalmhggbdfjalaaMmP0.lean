/- MemoryEnds: one event after the other. -/
-- BIG
import Derived.Test.YtalmhggbdfjalaaMmA
namespace Go.Proofs.Ytalmhggbdfjalaa
open Go Go.RowKit
set_option linter.unusedVariables false
set_option linter.unusedSectionVars false
set_option linter.unusedSimpArgs false
set_option maxHeartbeats 4000000

def isBg (b : Bk) (t : Td) : Prop := t.kd = 11 ∧ tm t = b.f ∧ t.m = b.s ∧ t.th = b.t
def isEn (b : Bk) (t : Td) : Prop := b.lv = false ∧ tm t = b.e
instance (b : Bk) (t : Td) : Decidable (isBg b t) := by unfold isBg; infer_instance
instance (b : Bk) (t : Td) : Decidable (isEn b t) := by unfold isEn; infer_instance
def S6i (l : List Td) (a : Int) (A : List Bk) (i k : Nat) (x : Bool × Bool) : St := ⟨[.sl false 10 (tRows l), .int .i64 a, .top, .top, .top, .sl false 7 (bRows A), .int .i64 i, .bool x.1, .bool x.2, .int .i64 k] ++ List.replicate 149 .top, []⟩
end Go.Proofs.Ytalmhggbdfjalaa
