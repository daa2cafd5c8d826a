/-
  No cell of these rows narrows 'for every input' (looked for: loops, veiled, ifaces, maps, wideKeys, modest, calm, conditions, laid).
  DERIVED. THE GIVEN ROWS OF THIS SEAT. 6 by the template 'for every input the law returns true; each argument reads behind the call as it read before'; 0 by the template 'total and deterministic' (their statements: YtlnaibkpmklkiaaTotals.lean).
  GIVEN WITH THE SEED: the statements are not yours to turn. If you find one false, say at which input.
  Laid BY PROGRAM, IN A SANDBOX (cutbox-rows.mjs): the forced cells as the released guide's own fill.sh prints them over the translation 1ba1019a1efe5450… (all of the seat's roots in one cut). By AI agents, Wed Nov 11 2026. No macro, syntax, notation, axiom, sorry.
-/
import Derived.Test.YtlnaibkpmklkiaaChecked
import GoSem.Claim
import GoSem.ClaimJoined
import GoSem.ClaimMapViews
import Derived.JoinedTies
import Derived.KernelRfl
namespace Go.Proofs.Ytlnaibkpmklkiaa
/- THE CELL 'sum', in the pinned program and in every row, IS THE sha256 OF THE DUMP (.gsa) THAT YtlnaibkpmklkiaaProg.lean LOADS. Nothing in Lean hashes anything: it is a label: what it is worth is what the hold of that sum in a sandbox is worth. -/
noncomputable def Try.pinned : Pinned := { name := "ytlnaibkpmklkiaa", sum := "1ba1019a1efe54504b13699f8cb3d4fde80d6e16e19e8b7931c05b74a90a03b5", checked := Try.checked }
namespace Rows
def none {H : Type} : Left H := { results := [], args := [] }

/-- 'tracebooklaw28.FlowOf': WHATEVER THE INPUT: true; the input reads as it did. -/
def flowOfSpec : ChangeSpec := { name := "flowOf", fn := fun _ => fun
  | [d] => { results := [.lit (.bool true)], args := [d] }
  | _ => none }
def flowOfRow : OpenClaim := { program := "ytlnaibkpmklkiaa", sum := "1ba1019a1efe54504b13699f8cb3d4fde80d6e16e19e8b7931c05b74a90a03b5", func := "tracebook/tracebooklaw28.FlowOf", spec := "flowOf", recurses := true, apart := false }
def FlowOfSaid : Prop := flowOfRow.holds Try.pinned (OpenSpec.ofChange flowOfSpec)

/-- ITS FALSE NEIGHBOUR: 'it returns false'. Refute it at one input. -/
def flowOfWrong : ChangeSpec := { name := "flowOf", fn := fun _ => fun
  | [d] => { results := [.lit (.bool false)], args := [d] }
  | _ => none }
def FlowOfWrongFalsely : Prop := flowOfRow.holds Try.pinned (OpenSpec.ofChange flowOfWrong)

/-- 'tracebooklaw28.FlowChecks': WHATEVER THE INPUT: true; the input reads as it did. -/
def flowChecksSpec : ChangeSpec := { name := "flowChecks", fn := fun _ => fun
  | [d1, d2, d3] => { results := [.lit (.bool true)], args := [d1, d2, d3] }
  | _ => none }
def flowChecksRow : OpenClaim := { program := "ytlnaibkpmklkiaa", sum := "1ba1019a1efe54504b13699f8cb3d4fde80d6e16e19e8b7931c05b74a90a03b5", func := "tracebook/tracebooklaw28.FlowChecks", spec := "flowChecks", recurses := true, apart := false }
def FlowChecksSaid : Prop := flowChecksRow.holds Try.pinned (OpenSpec.ofChange flowChecksSpec)

/-- ITS FALSE NEIGHBOUR: 'it returns false'. Refute it at one input. -/
def flowChecksWrong : ChangeSpec := { name := "flowChecks", fn := fun _ => fun
  | [d1, d2, d3] => { results := [.lit (.bool false)], args := [d1, d2, d3] }
  | _ => none }
def FlowChecksWrongFalsely : Prop := flowChecksRow.holds Try.pinned (OpenSpec.ofChange flowChecksWrong)

/-- 'tracebooklaw28.FlowEnds': WHATEVER THE INPUT: true; the input reads as it did. -/
def flowEndsSpec : ChangeSpec := { name := "flowEnds", fn := fun _ => fun
  | [d] => { results := [.lit (.bool true)], args := [d] }
  | _ => none }
def flowEndsRow : OpenClaim := { program := "ytlnaibkpmklkiaa", sum := "1ba1019a1efe54504b13699f8cb3d4fde80d6e16e19e8b7931c05b74a90a03b5", func := "tracebook/tracebooklaw28.FlowEnds", spec := "flowEnds", recurses := true, apart := false }
def FlowEndsSaid : Prop := flowEndsRow.holds Try.pinned (OpenSpec.ofChange flowEndsSpec)

/-- ITS FALSE NEIGHBOUR: 'it returns false'. Refute it at one input. -/
def flowEndsWrong : ChangeSpec := { name := "flowEnds", fn := fun _ => fun
  | [d] => { results := [.lit (.bool false)], args := [d] }
  | _ => none }
def FlowEndsWrongFalsely : Prop := flowEndsRow.holds Try.pinned (OpenSpec.ofChange flowEndsWrong)

/-- 'tracebooklaw28.FlowGrows': WHATEVER THE INPUT: true; the input reads as it did. -/
def flowGrowsSpec : ChangeSpec := { name := "flowGrows", fn := fun _ => fun
  | [d1, d2] => { results := [.lit (.bool true)], args := [d1, d2] }
  | _ => none }
def flowGrowsRow : OpenClaim := { program := "ytlnaibkpmklkiaa", sum := "1ba1019a1efe54504b13699f8cb3d4fde80d6e16e19e8b7931c05b74a90a03b5", func := "tracebook/tracebooklaw28.FlowGrows", spec := "flowGrows", recurses := true, apart := false }
def FlowGrowsSaid : Prop := flowGrowsRow.holds Try.pinned (OpenSpec.ofChange flowGrowsSpec)

/-- ITS FALSE NEIGHBOUR: 'it returns false'. Refute it at one input. -/
def flowGrowsWrong : ChangeSpec := { name := "flowGrows", fn := fun _ => fun
  | [d1, d2] => { results := [.lit (.bool false)], args := [d1, d2] }
  | _ => none }
def FlowGrowsWrongFalsely : Prop := flowGrowsRow.holds Try.pinned (OpenSpec.ofChange flowGrowsWrong)

/-- 'tracebooklaw28.FlowAccepts': WHATEVER THE INPUT: true; the input reads as it did. -/
def flowAcceptsSpec : ChangeSpec := { name := "flowAccepts", fn := fun _ => fun
  | [d] => { results := [.lit (.bool true)], args := [d] }
  | _ => none }
def flowAcceptsRow : OpenClaim := { program := "ytlnaibkpmklkiaa", sum := "1ba1019a1efe54504b13699f8cb3d4fde80d6e16e19e8b7931c05b74a90a03b5", func := "tracebook/tracebooklaw28.FlowAccepts", spec := "flowAccepts", recurses := true, apart := false }
def FlowAcceptsSaid : Prop := flowAcceptsRow.holds Try.pinned (OpenSpec.ofChange flowAcceptsSpec)

/-- ITS FALSE NEIGHBOUR: 'it returns false'. Refute it at one input. -/
def flowAcceptsWrong : ChangeSpec := { name := "flowAccepts", fn := fun _ => fun
  | [d] => { results := [.lit (.bool false)], args := [d] }
  | _ => none }
def FlowAcceptsWrongFalsely : Prop := flowAcceptsRow.holds Try.pinned (OpenSpec.ofChange flowAcceptsWrong)

/-- 'tracebooklaw28.FlowDivides': WHATEVER THE INPUT: true; the input reads as it did. -/
def flowDividesSpec : ChangeSpec := { name := "flowDivides", fn := fun _ => fun
  | [d] => { results := [.lit (.bool true)], args := [d] }
  | _ => none }
def flowDividesRow : OpenClaim := { program := "ytlnaibkpmklkiaa", sum := "1ba1019a1efe54504b13699f8cb3d4fde80d6e16e19e8b7931c05b74a90a03b5", func := "tracebook/tracebooklaw28.FlowDivides", spec := "flowDivides", recurses := true, apart := false }
def FlowDividesSaid : Prop := flowDividesRow.holds Try.pinned (OpenSpec.ofChange flowDividesSpec)

/-- ITS FALSE NEIGHBOUR: 'it returns false'. Refute it at one input. -/
def flowDividesWrong : ChangeSpec := { name := "flowDivides", fn := fun _ => fun
  | [d] => { results := [.lit (.bool false)], args := [d] }
  | _ => none }
def FlowDividesWrongFalsely : Prop := flowDividesRow.holds Try.pinned (OpenSpec.ofChange flowDividesWrong)

/- THE SECOND FORM. 'bulk': how many values and letters a reading holds, each counted each time it is reached (what is shared counts as often as it is met; a slice's spare places count too). A statement '..UptoSaid' is the law's where the arguments, and the package variables that the reading takes, are together of bulk at most 1048576: NARROWER than '..Said'. Prove '..Said' where nothing that the law and all that it calls make is longer than what came in: it says more and counts as full. Else prove '..UptoSaid'. A law counts once. -/
mutual
def uptoBulk {H : Type} : DataW H → Nat
  | .lit (.string bytes) => bytes.length + 1
  | .lit _ => 1
  | .nil => 1
  | .ptr d => uptoBulk d + 1
  | .slice elems spare => uptoBulkAll elems + uptoBulkAll spare + 1
  | .agg parts => uptoBulkAll parts + 1
  | .iface _ d => uptoBulk d + 1
  | .map entries => uptoBulkEntries entries + 1
  | .held _ => 1
def uptoBulkAll {H : Type} : List (DataW H) → Nat
  | [] => 0
  | d :: r => uptoBulk d + uptoBulkAll r
def uptoBulkEntries {H : Type} : List (Lit × DataW H) → Nat
  | [] => 0
  | x :: r => uptoBulkEntry x + uptoBulkEntries r
def uptoBulkEntry {H : Type} : Lit × DataW H → Nat
  | (.string bytes, d) => bytes.length + uptoBulk d + 1
  | (_, d) => uptoBulk d + 1
 end
def uptoSmall : (H : Type) → List (DataW H) → Bool := fun _ ds => decide (uptoBulkAll ds ≤ 1048576)
def OpenSpec.upto (s : _root_.Go.ChangeSpec) : _root_.Go.OpenSpec := { _root_.Go.OpenSpec.ofChange s with cond := some uptoSmall }

/-- 'tracebooklaw28.FlowOf', WHERE WHAT IT READS IS OF BULK AT MOST 1048576: true; the input reads as it did. -/
def flowOfUptoRow : OpenClaim := { program := "ytlnaibkpmklkiaa", sum := "1ba1019a1efe54504b13699f8cb3d4fde80d6e16e19e8b7931c05b74a90a03b5", func := "tracebook/tracebooklaw28.FlowOf", spec := "flowOf", recurses := true, apart := false, narrowed := true }
def FlowOfUptoSaid : Prop := flowOfUptoRow.holds Try.pinned (OpenSpec.upto flowOfSpec)

/-- 'tracebooklaw28.FlowChecks', WHERE WHAT IT READS IS OF BULK AT MOST 1048576: true; the input reads as it did. -/
def flowChecksUptoRow : OpenClaim := { program := "ytlnaibkpmklkiaa", sum := "1ba1019a1efe54504b13699f8cb3d4fde80d6e16e19e8b7931c05b74a90a03b5", func := "tracebook/tracebooklaw28.FlowChecks", spec := "flowChecks", recurses := true, apart := false, narrowed := true }
def FlowChecksUptoSaid : Prop := flowChecksUptoRow.holds Try.pinned (OpenSpec.upto flowChecksSpec)

/-- 'tracebooklaw28.FlowEnds', WHERE WHAT IT READS IS OF BULK AT MOST 1048576: true; the input reads as it did. -/
def flowEndsUptoRow : OpenClaim := { program := "ytlnaibkpmklkiaa", sum := "1ba1019a1efe54504b13699f8cb3d4fde80d6e16e19e8b7931c05b74a90a03b5", func := "tracebook/tracebooklaw28.FlowEnds", spec := "flowEnds", recurses := true, apart := false, narrowed := true }
def FlowEndsUptoSaid : Prop := flowEndsUptoRow.holds Try.pinned (OpenSpec.upto flowEndsSpec)

/-- 'tracebooklaw28.FlowGrows', WHERE WHAT IT READS IS OF BULK AT MOST 1048576: true; the input reads as it did. -/
def flowGrowsUptoRow : OpenClaim := { program := "ytlnaibkpmklkiaa", sum := "1ba1019a1efe54504b13699f8cb3d4fde80d6e16e19e8b7931c05b74a90a03b5", func := "tracebook/tracebooklaw28.FlowGrows", spec := "flowGrows", recurses := true, apart := false, narrowed := true }
def FlowGrowsUptoSaid : Prop := flowGrowsUptoRow.holds Try.pinned (OpenSpec.upto flowGrowsSpec)

/-- 'tracebooklaw28.FlowAccepts', WHERE WHAT IT READS IS OF BULK AT MOST 1048576: true; the input reads as it did. -/
def flowAcceptsUptoRow : OpenClaim := { program := "ytlnaibkpmklkiaa", sum := "1ba1019a1efe54504b13699f8cb3d4fde80d6e16e19e8b7931c05b74a90a03b5", func := "tracebook/tracebooklaw28.FlowAccepts", spec := "flowAccepts", recurses := true, apart := false, narrowed := true }
def FlowAcceptsUptoSaid : Prop := flowAcceptsUptoRow.holds Try.pinned (OpenSpec.upto flowAcceptsSpec)

/-- 'tracebooklaw28.FlowDivides', WHERE WHAT IT READS IS OF BULK AT MOST 1048576: true; the input reads as it did. -/
def flowDividesUptoRow : OpenClaim := { program := "ytlnaibkpmklkiaa", sum := "1ba1019a1efe54504b13699f8cb3d4fde80d6e16e19e8b7931c05b74a90a03b5", func := "tracebook/tracebooklaw28.FlowDivides", spec := "flowDivides", recurses := true, apart := false, narrowed := true }
def FlowDividesUptoSaid : Prop := flowDividesUptoRow.holds Try.pinned (OpenSpec.upto flowDividesSpec)

end Rows
end Go.Proofs.Ytlnaibkpmklkiaa
