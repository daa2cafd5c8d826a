/-
  No cell of these rows narrows 'for every input' (looked for: loops, veiled, ifaces, maps, wideKeys, modest, calm, conditions, laid).
  DERIVED. THE GIVEN ROWS OF THIS SEAT. 5 by the template 'for every input the law returns true; each argument reads behind the call as it read before'; 0 by the template 'total and deterministic' (their statements: YtkodjmlhmpokoaaTotals.lean).
  GIVEN WITH THE SEED: the statements are not yours to turn. If you find one false, say at which input.
  Laid BY PROGRAM, IN A SANDBOX (cutbox-rows.mjs): the forced cells as the released guide's own fill.sh prints them over the translation f20d189586c6227d… (all of the seat's roots in one cut). By AI agents, Wed Nov 11 2026. No macro, syntax, notation, axiom, sorry.
-/
import Derived.Test.YtkodjmlhmpokoaaChecked
import GoSem.Claim
import GoSem.ClaimJoined
import GoSem.ClaimMapViews
import Derived.JoinedTies
import Derived.KernelRfl
namespace Go.Proofs.Ytkodjmlhmpokoaa
/- THE CELL 'sum', in the pinned program and in every row, IS THE sha256 OF THE DUMP (.gsa) THAT YtkodjmlhmpokoaaProg.lean LOADS. Nothing in Lean hashes anything: it is a label: what it is worth is what the hold of that sum in a sandbox is worth. -/
noncomputable def Try.pinned : Pinned := { name := "ytkodjmlhmpokoaa", sum := "f20d189586c6227dda99c6a2f1f6d6d575dc75c958d2d8dce8054783ab8782f3", checked := Try.checked }
namespace Rows
def none {H : Type} : Left H := { results := [], args := [] }

/-- 'tracebooklaw35.ItreeOf': WHATEVER THE INPUT: true; the input reads as it did. -/
def itreeOfSpec : ChangeSpec := { name := "itreeOf", fn := fun _ => fun
  | [d] => { results := [.lit (.bool true)], args := [d] }
  | _ => none }
def itreeOfRow : OpenClaim := { program := "ytkodjmlhmpokoaa", sum := "f20d189586c6227dda99c6a2f1f6d6d575dc75c958d2d8dce8054783ab8782f3", func := "tracebook/tracebooklaw35.ItreeOf", spec := "itreeOf", unfollowed := true, recurses := true, apart := false }
def ItreeOfSaid : Prop := itreeOfRow.holds Try.pinned (OpenSpec.ofChange itreeOfSpec)

/-- ITS FALSE NEIGHBOUR: 'it returns false'. Refute it at one input. -/
def itreeOfWrong : ChangeSpec := { name := "itreeOf", fn := fun _ => fun
  | [d] => { results := [.lit (.bool false)], args := [d] }
  | _ => none }
def ItreeOfWrongFalsely : Prop := itreeOfRow.holds Try.pinned (OpenSpec.ofChange itreeOfWrong)

/-- 'tracebooklaw35.ItreeChecks': WHATEVER THE INPUT: true; the input reads as it did. -/
def itreeChecksSpec : ChangeSpec := { name := "itreeChecks", fn := fun _ => fun
  | [d1, d2, d3] => { results := [.lit (.bool true)], args := [d1, d2, d3] }
  | _ => none }
def itreeChecksRow : OpenClaim := { program := "ytkodjmlhmpokoaa", sum := "f20d189586c6227dda99c6a2f1f6d6d575dc75c958d2d8dce8054783ab8782f3", func := "tracebook/tracebooklaw35.ItreeChecks", spec := "itreeChecks", unfollowed := true, recurses := true, apart := false }
def ItreeChecksSaid : Prop := itreeChecksRow.holds Try.pinned (OpenSpec.ofChange itreeChecksSpec)

/-- ITS FALSE NEIGHBOUR: 'it returns false'. Refute it at one input. -/
def itreeChecksWrong : ChangeSpec := { name := "itreeChecks", fn := fun _ => fun
  | [d1, d2, d3] => { results := [.lit (.bool false)], args := [d1, d2, d3] }
  | _ => none }
def ItreeChecksWrongFalsely : Prop := itreeChecksRow.holds Try.pinned (OpenSpec.ofChange itreeChecksWrong)

/-- 'tracebooklaw35.ItreeSorts': WHATEVER THE INPUT: true; the input reads as it did. -/
def itreeSortsSpec : ChangeSpec := { name := "itreeSorts", fn := fun _ => fun
  | [d] => { results := [.lit (.bool true)], args := [d] }
  | _ => none }
def itreeSortsRow : OpenClaim := { program := "ytkodjmlhmpokoaa", sum := "f20d189586c6227dda99c6a2f1f6d6d575dc75c958d2d8dce8054783ab8782f3", func := "tracebook/tracebooklaw35.ItreeSorts", spec := "itreeSorts", unfollowed := true, recurses := true, apart := false }
def ItreeSortsSaid : Prop := itreeSortsRow.holds Try.pinned (OpenSpec.ofChange itreeSortsSpec)

/-- ITS FALSE NEIGHBOUR: 'it returns false'. Refute it at one input. -/
def itreeSortsWrong : ChangeSpec := { name := "itreeSorts", fn := fun _ => fun
  | [d] => { results := [.lit (.bool false)], args := [d] }
  | _ => none }
def ItreeSortsWrongFalsely : Prop := itreeSortsRow.holds Try.pinned (OpenSpec.ofChange itreeSortsWrong)

/-- 'tracebooklaw35.ItreeFinds': WHATEVER THE INPUT: true; the input reads as it did. -/
def itreeFindsSpec : ChangeSpec := { name := "itreeFinds", fn := fun _ => fun
  | [d1, d2, d3] => { results := [.lit (.bool true)], args := [d1, d2, d3] }
  | _ => none }
def itreeFindsRow : OpenClaim := { program := "ytkodjmlhmpokoaa", sum := "f20d189586c6227dda99c6a2f1f6d6d575dc75c958d2d8dce8054783ab8782f3", func := "tracebook/tracebooklaw35.ItreeFinds", spec := "itreeFinds", unfollowed := true, recurses := true, apart := false }
def ItreeFindsSaid : Prop := itreeFindsRow.holds Try.pinned (OpenSpec.ofChange itreeFindsSpec)

/-- ITS FALSE NEIGHBOUR: 'it returns false'. Refute it at one input. -/
def itreeFindsWrong : ChangeSpec := { name := "itreeFinds", fn := fun _ => fun
  | [d1, d2, d3] => { results := [.lit (.bool false)], args := [d1, d2, d3] }
  | _ => none }
def ItreeFindsWrongFalsely : Prop := itreeFindsRow.holds Try.pinned (OpenSpec.ofChange itreeFindsWrong)

/-- 'tracebooklaw35.ItreeVisits': WHATEVER THE INPUT: true; the input reads as it did. -/
def itreeVisitsSpec : ChangeSpec := { name := "itreeVisits", fn := fun _ => fun
  | [d1, d2] => { results := [.lit (.bool true)], args := [d1, d2] }
  | _ => none }
def itreeVisitsRow : OpenClaim := { program := "ytkodjmlhmpokoaa", sum := "f20d189586c6227dda99c6a2f1f6d6d575dc75c958d2d8dce8054783ab8782f3", func := "tracebook/tracebooklaw35.ItreeVisits", spec := "itreeVisits", unfollowed := true, recurses := true, apart := false }
def ItreeVisitsSaid : Prop := itreeVisitsRow.holds Try.pinned (OpenSpec.ofChange itreeVisitsSpec)

/-- ITS FALSE NEIGHBOUR: 'it returns false'. Refute it at one input. -/
def itreeVisitsWrong : ChangeSpec := { name := "itreeVisits", fn := fun _ => fun
  | [d1, d2] => { results := [.lit (.bool false)], args := [d1, d2] }
  | _ => none }
def ItreeVisitsWrongFalsely : Prop := itreeVisitsRow.holds Try.pinned (OpenSpec.ofChange itreeVisitsWrong)

/- THE SECOND FORM. 'bulk': how many values and letters a reading holds, each counted each time it is reached (what is shared counts as often as it is met; a slice's spare places count too). A statement '..UptoSaid' is the law's where the arguments, and the package variables that the reading takes, are together of bulk at most 1048576: NARROWER than '..Said'. Prove '..Said' where nothing that the law and all that it calls make is longer than what came in: it says more and counts as full. Else prove '..UptoSaid'. A law counts once. -/
mutual
def uptoBulk {H : Type} : DataW H → Nat
  | .lit (.string bytes) => bytes.length + 1
  | .lit _ => 1
  | .nil => 1
  | .ptr d => uptoBulk d + 1
  | .slice elems spare => uptoBulkAll elems + uptoBulkAll spare + 1
  | .agg parts => uptoBulkAll parts + 1
  | .iface _ d => uptoBulk d + 1
  | .map entries => uptoBulkEntries entries + 1
  | .held _ => 1
def uptoBulkAll {H : Type} : List (DataW H) → Nat
  | [] => 0
  | d :: r => uptoBulk d + uptoBulkAll r
def uptoBulkEntries {H : Type} : List (Lit × DataW H) → Nat
  | [] => 0
  | x :: r => uptoBulkEntry x + uptoBulkEntries r
def uptoBulkEntry {H : Type} : Lit × DataW H → Nat
  | (.string bytes, d) => bytes.length + uptoBulk d + 1
  | (_, d) => uptoBulk d + 1
 end
def uptoSmall : (H : Type) → List (DataW H) → Bool := fun _ ds => decide (uptoBulkAll ds ≤ 1048576)
def OpenSpec.upto (s : _root_.Go.ChangeSpec) : _root_.Go.OpenSpec := { _root_.Go.OpenSpec.ofChange s with cond := some uptoSmall }

/-- 'tracebooklaw35.ItreeOf', WHERE WHAT IT READS IS OF BULK AT MOST 1048576: true; the input reads as it did. -/
def itreeOfUptoRow : OpenClaim := { program := "ytkodjmlhmpokoaa", sum := "f20d189586c6227dda99c6a2f1f6d6d575dc75c958d2d8dce8054783ab8782f3", func := "tracebook/tracebooklaw35.ItreeOf", spec := "itreeOf", unfollowed := true, recurses := true, apart := false, narrowed := true }
def ItreeOfUptoSaid : Prop := itreeOfUptoRow.holds Try.pinned (OpenSpec.upto itreeOfSpec)

/-- 'tracebooklaw35.ItreeChecks', WHERE WHAT IT READS IS OF BULK AT MOST 1048576: true; the input reads as it did. -/
def itreeChecksUptoRow : OpenClaim := { program := "ytkodjmlhmpokoaa", sum := "f20d189586c6227dda99c6a2f1f6d6d575dc75c958d2d8dce8054783ab8782f3", func := "tracebook/tracebooklaw35.ItreeChecks", spec := "itreeChecks", unfollowed := true, recurses := true, apart := false, narrowed := true }
def ItreeChecksUptoSaid : Prop := itreeChecksUptoRow.holds Try.pinned (OpenSpec.upto itreeChecksSpec)

/-- 'tracebooklaw35.ItreeSorts', WHERE WHAT IT READS IS OF BULK AT MOST 1048576: true; the input reads as it did. -/
def itreeSortsUptoRow : OpenClaim := { program := "ytkodjmlhmpokoaa", sum := "f20d189586c6227dda99c6a2f1f6d6d575dc75c958d2d8dce8054783ab8782f3", func := "tracebook/tracebooklaw35.ItreeSorts", spec := "itreeSorts", unfollowed := true, recurses := true, apart := false, narrowed := true }
def ItreeSortsUptoSaid : Prop := itreeSortsUptoRow.holds Try.pinned (OpenSpec.upto itreeSortsSpec)

/-- 'tracebooklaw35.ItreeFinds', WHERE WHAT IT READS IS OF BULK AT MOST 1048576: true; the input reads as it did. -/
def itreeFindsUptoRow : OpenClaim := { program := "ytkodjmlhmpokoaa", sum := "f20d189586c6227dda99c6a2f1f6d6d575dc75c958d2d8dce8054783ab8782f3", func := "tracebook/tracebooklaw35.ItreeFinds", spec := "itreeFinds", unfollowed := true, recurses := true, apart := false, narrowed := true }
def ItreeFindsUptoSaid : Prop := itreeFindsUptoRow.holds Try.pinned (OpenSpec.upto itreeFindsSpec)

/-- 'tracebooklaw35.ItreeVisits', WHERE WHAT IT READS IS OF BULK AT MOST 1048576: true; the input reads as it did. -/
def itreeVisitsUptoRow : OpenClaim := { program := "ytkodjmlhmpokoaa", sum := "f20d189586c6227dda99c6a2f1f6d6d575dc75c958d2d8dce8054783ab8782f3", func := "tracebook/tracebooklaw35.ItreeVisits", spec := "itreeVisits", unfollowed := true, recurses := true, apart := false, narrowed := true }
def ItreeVisitsUptoSaid : Prop := itreeVisitsUptoRow.holds Try.pinned (OpenSpec.upto itreeVisitsSpec)

end Rows
end Go.Proofs.Ytkodjmlhmpokoaa
