/- slices.symMergeCmpFunc: what goes on behind a piece of code. -/
import Derived.Test.YtalmhggbdfjalaaStF
namespace Go.Proofs.Ytalmhggbdfjalaa
open Go Go.RowKit
set_option linter.unusedVariables false
set_option linter.unusedSimpArgs false
set_option maxHeartbeats 16000000

def nbOf : Option Out → Option Blks
  | some (.normal s) => some s.bl
  | _ => none
theorem nbOf_inv {o : Option Out} {bl : Blks} (h : nbOf o = some bl) : ∃ t, o = some (.normal ⟨t, bl⟩) := by
  unfold nbOf at h
  split at h
  · rename_i s
    obtain ⟨t, b⟩ := s
    exact ⟨t, by rw [← Option.some.inj h]⟩
  · cases h
end Go.Proofs.Ytalmhggbdfjalaa
