/-
  No cell of these rows narrows 'for every input' (looked for: loops, veiled, ifaces, maps, wideKeys, modest, calm, conditions, laid).
  DERIVED. THE GIVEN ROWS OF THIS SEAT. 6 by the template 'for every input the law returns true; each argument reads behind the call as it read before'; 0 by the template 'total and deterministic' (their statements: YtildbjepbnjbfaaTotals.lean).
  GIVEN WITH THE SEED: the statements are not yours to turn. If you find one false, say at which input.
  Laid BY PROGRAM, IN A SANDBOX (cutbox-rows.mjs): the forced cells as the released guide's own fill.sh prints them over the translation 609c9a8c0e9a469e… (all of the seat's roots in one cut). By AI agents, Wed Nov 11 2026. No macro, syntax, notation, axiom, sorry.
-/
import Derived.Test.YtildbjepbnjbfaaChecked
import GoSem.Claim
import GoSem.ClaimJoined
import GoSem.ClaimMapViews
import Derived.JoinedTies
import Derived.KernelRfl
namespace Go.Proofs.Ytildbjepbnjbfaa
/- THE CELL 'sum', in the pinned program and in every row, IS THE sha256 OF THE DUMP (.gsa) THAT YtildbjepbnjbfaaProg.lean LOADS. Nothing in Lean hashes anything: it is a label: what it is worth is what the hold of that sum in a sandbox is worth. -/
noncomputable def Try.pinned : Pinned := { name := "ytildbjepbnjbfaa", sum := "609c9a8c0e9a469e22bb5e97845d79f29d8977aeb71a5dfe50d0dc90f93ee509", checked := Try.checked }
namespace Rows
def none {H : Type} : Left H := { results := [], args := [] }

/-- 'tracebooklaw04.SpansNormals': WHATEVER THE INPUT: true; the input reads as it did. -/
def spansNormalsSpec : ChangeSpec := { name := "spansNormals", fn := fun _ => fun
  | [d] => { results := [.lit (.bool true)], args := [d] }
  | _ => none }
def spansNormalsRow : OpenClaim := { program := "ytildbjepbnjbfaa", sum := "609c9a8c0e9a469e22bb5e97845d79f29d8977aeb71a5dfe50d0dc90f93ee509", func := "tracebook/tracebooklaw04.SpansNormals", spec := "spansNormals", unfollowed := true, recurses := true, apart := false }
def SpansNormalsSaid : Prop := spansNormalsRow.holds Try.pinned (OpenSpec.ofChange spansNormalsSpec)

/-- ITS FALSE NEIGHBOUR: 'it returns false'. Refute it at one input. -/
def spansNormalsWrong : ChangeSpec := { name := "spansNormals", fn := fun _ => fun
  | [d] => { results := [.lit (.bool false)], args := [d] }
  | _ => none }
def SpansNormalsWrongFalsely : Prop := spansNormalsRow.holds Try.pinned (OpenSpec.ofChange spansNormalsWrong)

/-- 'tracebooklaw04.SpansCombines': WHATEVER THE INPUT: true; the input reads as it did. -/
def spansCombinesSpec : ChangeSpec := { name := "spansCombines", fn := fun _ => fun
  | [d1, d2] => { results := [.lit (.bool true)], args := [d1, d2] }
  | _ => none }
def spansCombinesRow : OpenClaim := { program := "ytildbjepbnjbfaa", sum := "609c9a8c0e9a469e22bb5e97845d79f29d8977aeb71a5dfe50d0dc90f93ee509", func := "tracebook/tracebooklaw04.SpansCombines", spec := "spansCombines", unfollowed := true, recurses := true, apart := false }
def SpansCombinesSaid : Prop := spansCombinesRow.holds Try.pinned (OpenSpec.ofChange spansCombinesSpec)

/-- ITS FALSE NEIGHBOUR: 'it returns false'. Refute it at one input. -/
def spansCombinesWrong : ChangeSpec := { name := "spansCombines", fn := fun _ => fun
  | [d1, d2] => { results := [.lit (.bool false)], args := [d1, d2] }
  | _ => none }
def SpansCombinesWrongFalsely : Prop := spansCombinesRow.holds Try.pinned (OpenSpec.ofChange spansCombinesWrong)

/-- 'tracebooklaw04.SpansMembers': WHATEVER THE INPUT: true; the input reads as it did. -/
def spansMembersSpec : ChangeSpec := { name := "spansMembers", fn := fun _ => fun
  | [d1, d2, d3] => { results := [.lit (.bool true)], args := [d1, d2, d3] }
  | _ => none }
def spansMembersRow : OpenClaim := { program := "ytildbjepbnjbfaa", sum := "609c9a8c0e9a469e22bb5e97845d79f29d8977aeb71a5dfe50d0dc90f93ee509", func := "tracebook/tracebooklaw04.SpansMembers", spec := "spansMembers", unfollowed := true, recurses := true, apart := false }
def SpansMembersSaid : Prop := spansMembersRow.holds Try.pinned (OpenSpec.ofChange spansMembersSpec)

/-- ITS FALSE NEIGHBOUR: 'it returns false'. Refute it at one input. -/
def spansMembersWrong : ChangeSpec := { name := "spansMembers", fn := fun _ => fun
  | [d1, d2, d3] => { results := [.lit (.bool false)], args := [d1, d2, d3] }
  | _ => none }
def SpansMembersWrongFalsely : Prop := spansMembersRow.holds Try.pinned (OpenSpec.ofChange spansMembersWrong)

/-- 'tracebooklaw04.SpansLengths': WHATEVER THE INPUT: true; the input reads as it did. -/
def spansLengthsSpec : ChangeSpec := { name := "spansLengths", fn := fun _ => fun
  | [d1, d2] => { results := [.lit (.bool true)], args := [d1, d2] }
  | _ => none }
def spansLengthsRow : OpenClaim := { program := "ytildbjepbnjbfaa", sum := "609c9a8c0e9a469e22bb5e97845d79f29d8977aeb71a5dfe50d0dc90f93ee509", func := "tracebook/tracebooklaw04.SpansLengths", spec := "spansLengths", unfollowed := true, recurses := true, apart := false }
def SpansLengthsSaid : Prop := spansLengthsRow.holds Try.pinned (OpenSpec.ofChange spansLengthsSpec)

/-- ITS FALSE NEIGHBOUR: 'it returns false'. Refute it at one input. -/
def spansLengthsWrong : ChangeSpec := { name := "spansLengths", fn := fun _ => fun
  | [d1, d2] => { results := [.lit (.bool false)], args := [d1, d2] }
  | _ => none }
def SpansLengthsWrongFalsely : Prop := spansLengthsRow.holds Try.pinned (OpenSpec.ofChange spansLengthsWrong)

/-- 'tracebooklaw04.SpansParts': WHATEVER THE INPUT: true; the input reads as it did. -/
def spansPartsSpec : ChangeSpec := { name := "spansParts", fn := fun _ => fun
  | [d1, d2] => { results := [.lit (.bool true)], args := [d1, d2] }
  | _ => none }
def spansPartsRow : OpenClaim := { program := "ytildbjepbnjbfaa", sum := "609c9a8c0e9a469e22bb5e97845d79f29d8977aeb71a5dfe50d0dc90f93ee509", func := "tracebook/tracebooklaw04.SpansParts", spec := "spansParts", unfollowed := true, recurses := true, apart := false }
def SpansPartsSaid : Prop := spansPartsRow.holds Try.pinned (OpenSpec.ofChange spansPartsSpec)

/-- ITS FALSE NEIGHBOUR: 'it returns false'. Refute it at one input. -/
def spansPartsWrong : ChangeSpec := { name := "spansParts", fn := fun _ => fun
  | [d1, d2] => { results := [.lit (.bool false)], args := [d1, d2] }
  | _ => none }
def SpansPartsWrongFalsely : Prop := spansPartsRow.holds Try.pinned (OpenSpec.ofChange spansPartsWrong)

/-- 'tracebooklaw04.SpansStable': WHATEVER THE INPUT: true; the input reads as it did. -/
def spansStableSpec : ChangeSpec := { name := "spansStable", fn := fun _ => fun
  | [d] => { results := [.lit (.bool true)], args := [d] }
  | _ => none }
def spansStableRow : OpenClaim := { program := "ytildbjepbnjbfaa", sum := "609c9a8c0e9a469e22bb5e97845d79f29d8977aeb71a5dfe50d0dc90f93ee509", func := "tracebook/tracebooklaw04.SpansStable", spec := "spansStable", unfollowed := true, recurses := true, apart := false }
def SpansStableSaid : Prop := spansStableRow.holds Try.pinned (OpenSpec.ofChange spansStableSpec)

/-- ITS FALSE NEIGHBOUR: 'it returns false'. Refute it at one input. -/
def spansStableWrong : ChangeSpec := { name := "spansStable", fn := fun _ => fun
  | [d] => { results := [.lit (.bool false)], args := [d] }
  | _ => none }
def SpansStableWrongFalsely : Prop := spansStableRow.holds Try.pinned (OpenSpec.ofChange spansStableWrong)

/- THE SECOND FORM. 'bulk': how many values and letters a reading holds, each counted each time it is reached (what is shared counts as often as it is met; a slice's spare places count too). A statement '..UptoSaid' is the law's where the arguments, and the package variables that the reading takes, are together of bulk at most 1048576: NARROWER than '..Said'. Prove '..Said' where nothing that the law and all that it calls make is longer than what came in: it says more and counts as full. Else prove '..UptoSaid'. A law counts once. -/
mutual
def uptoBulk {H : Type} : DataW H → Nat
  | .lit (.string bytes) => bytes.length + 1
  | .lit _ => 1
  | .nil => 1
  | .ptr d => uptoBulk d + 1
  | .slice elems spare => uptoBulkAll elems + uptoBulkAll spare + 1
  | .agg parts => uptoBulkAll parts + 1
  | .iface _ d => uptoBulk d + 1
  | .map entries => uptoBulkEntries entries + 1
  | .held _ => 1
def uptoBulkAll {H : Type} : List (DataW H) → Nat
  | [] => 0
  | d :: r => uptoBulk d + uptoBulkAll r
def uptoBulkEntries {H : Type} : List (Lit × DataW H) → Nat
  | [] => 0
  | x :: r => uptoBulkEntry x + uptoBulkEntries r
def uptoBulkEntry {H : Type} : Lit × DataW H → Nat
  | (.string bytes, d) => bytes.length + uptoBulk d + 1
  | (_, d) => uptoBulk d + 1
 end
def uptoSmall : (H : Type) → List (DataW H) → Bool := fun _ ds => decide (uptoBulkAll ds ≤ 1048576)
def OpenSpec.upto (s : _root_.Go.ChangeSpec) : _root_.Go.OpenSpec := { _root_.Go.OpenSpec.ofChange s with cond := some uptoSmall }

/-- 'tracebooklaw04.SpansNormals', WHERE WHAT IT READS IS OF BULK AT MOST 1048576: true; the input reads as it did. -/
def spansNormalsUptoRow : OpenClaim := { program := "ytildbjepbnjbfaa", sum := "609c9a8c0e9a469e22bb5e97845d79f29d8977aeb71a5dfe50d0dc90f93ee509", func := "tracebook/tracebooklaw04.SpansNormals", spec := "spansNormals", unfollowed := true, recurses := true, apart := false, narrowed := true }
def SpansNormalsUptoSaid : Prop := spansNormalsUptoRow.holds Try.pinned (OpenSpec.upto spansNormalsSpec)

/-- 'tracebooklaw04.SpansCombines', WHERE WHAT IT READS IS OF BULK AT MOST 1048576: true; the input reads as it did. -/
def spansCombinesUptoRow : OpenClaim := { program := "ytildbjepbnjbfaa", sum := "609c9a8c0e9a469e22bb5e97845d79f29d8977aeb71a5dfe50d0dc90f93ee509", func := "tracebook/tracebooklaw04.SpansCombines", spec := "spansCombines", unfollowed := true, recurses := true, apart := false, narrowed := true }
def SpansCombinesUptoSaid : Prop := spansCombinesUptoRow.holds Try.pinned (OpenSpec.upto spansCombinesSpec)

/-- 'tracebooklaw04.SpansMembers', WHERE WHAT IT READS IS OF BULK AT MOST 1048576: true; the input reads as it did. -/
def spansMembersUptoRow : OpenClaim := { program := "ytildbjepbnjbfaa", sum := "609c9a8c0e9a469e22bb5e97845d79f29d8977aeb71a5dfe50d0dc90f93ee509", func := "tracebook/tracebooklaw04.SpansMembers", spec := "spansMembers", unfollowed := true, recurses := true, apart := false, narrowed := true }
def SpansMembersUptoSaid : Prop := spansMembersUptoRow.holds Try.pinned (OpenSpec.upto spansMembersSpec)

/-- 'tracebooklaw04.SpansLengths', WHERE WHAT IT READS IS OF BULK AT MOST 1048576: true; the input reads as it did. -/
def spansLengthsUptoRow : OpenClaim := { program := "ytildbjepbnjbfaa", sum := "609c9a8c0e9a469e22bb5e97845d79f29d8977aeb71a5dfe50d0dc90f93ee509", func := "tracebook/tracebooklaw04.SpansLengths", spec := "spansLengths", unfollowed := true, recurses := true, apart := false, narrowed := true }
def SpansLengthsUptoSaid : Prop := spansLengthsUptoRow.holds Try.pinned (OpenSpec.upto spansLengthsSpec)

/-- 'tracebooklaw04.SpansParts', WHERE WHAT IT READS IS OF BULK AT MOST 1048576: true; the input reads as it did. -/
def spansPartsUptoRow : OpenClaim := { program := "ytildbjepbnjbfaa", sum := "609c9a8c0e9a469e22bb5e97845d79f29d8977aeb71a5dfe50d0dc90f93ee509", func := "tracebook/tracebooklaw04.SpansParts", spec := "spansParts", unfollowed := true, recurses := true, apart := false, narrowed := true }
def SpansPartsUptoSaid : Prop := spansPartsUptoRow.holds Try.pinned (OpenSpec.upto spansPartsSpec)

/-- 'tracebooklaw04.SpansStable', WHERE WHAT IT READS IS OF BULK AT MOST 1048576: true; the input reads as it did. -/
def spansStableUptoRow : OpenClaim := { program := "ytildbjepbnjbfaa", sum := "609c9a8c0e9a469e22bb5e97845d79f29d8977aeb71a5dfe50d0dc90f93ee509", func := "tracebook/tracebooklaw04.SpansStable", spec := "spansStable", unfollowed := true, recurses := true, apart := false, narrowed := true }
def SpansStableUptoSaid : Prop := spansStableUptoRow.holds Try.pinned (OpenSpec.upto spansStableSpec)

end Rows
end Go.Proofs.Ytildbjepbnjbfaa
