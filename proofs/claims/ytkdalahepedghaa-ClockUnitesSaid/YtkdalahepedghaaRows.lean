/-
  No cell of these rows narrows 'for every input' (looked for: loops, veiled, ifaces, maps, wideKeys, modest, calm, conditions, laid).
  DERIVED. THE GIVEN ROWS OF THIS SEAT. 7 by the template 'for every input the law returns true; each argument reads behind the call as it read before'; 0 by the template 'total and deterministic' (their statements: YtkdalahepedghaaTotals.lean).
  GIVEN WITH THE SEED: the statements are not yours to turn. If you find one false, say at which input.
  Laid BY PROGRAM, IN A SANDBOX (cutbox-rows.mjs): the forced cells as the released guide's own fill.sh prints them over the translation 7234bb3b27b7357b… (all of the seat's roots in one cut). By AI agents, Wed Nov 11 2026. No macro, syntax, notation, axiom, sorry.
-/
import Derived.Test.YtkdalahepedghaaChecked
import GoSem.Claim
import GoSem.ClaimJoined
import GoSem.ClaimMapViews
import Derived.JoinedTies
import Derived.KernelRfl
namespace Go.Proofs.Ytkdalahepedghaa
/- THE CELL 'sum', in the pinned program and in every row, IS THE sha256 OF THE DUMP (.gsa) THAT YtkdalahepedghaaProg.lean LOADS. Nothing in Lean hashes anything: it is a label: what it is worth is what the hold of that sum in a sandbox is worth. -/
noncomputable def Try.pinned : Pinned := { name := "ytkdalahepedghaa", sum := "7234bb3b27b7357b4f5d80228892a600739e57750756e91e594a2dd8a7d03196", checked := Try.checked }
namespace Rows
def none {H : Type} : Left H := { results := [], args := [] }

/-- 'tracebooklaw14.ClockChecks': WHATEVER THE INPUT: true; the input reads as it did. -/
def clockChecksSpec : ChangeSpec := { name := "clockChecks", fn := fun _ => fun
  | [d1, d2] => { results := [.lit (.bool true)], args := [d1, d2] }
  | _ => none }
def clockChecksRow : OpenClaim := { program := "ytkdalahepedghaa", sum := "7234bb3b27b7357b4f5d80228892a600739e57750756e91e594a2dd8a7d03196", func := "tracebook/tracebooklaw14.ClockChecks", spec := "clockChecks", unfollowed := true, recurses := true, apart := false }
def ClockChecksSaid : Prop := clockChecksRow.holds Try.pinned (OpenSpec.ofChange clockChecksSpec)

/-- ITS FALSE NEIGHBOUR: 'it returns false'. Refute it at one input. -/
def clockChecksWrong : ChangeSpec := { name := "clockChecks", fn := fun _ => fun
  | [d1, d2] => { results := [.lit (.bool false)], args := [d1, d2] }
  | _ => none }
def ClockChecksWrongFalsely : Prop := clockChecksRow.holds Try.pinned (OpenSpec.ofChange clockChecksWrong)

/-- 'tracebooklaw14.ClockRates': WHATEVER THE INPUT: true; the input reads as it did. -/
def clockRatesSpec : ChangeSpec := { name := "clockRates", fn := fun _ => fun
  | [d1, d2] => { results := [.lit (.bool true)], args := [d1, d2] }
  | _ => none }
def clockRatesRow : OpenClaim := { program := "ytkdalahepedghaa", sum := "7234bb3b27b7357b4f5d80228892a600739e57750756e91e594a2dd8a7d03196", func := "tracebook/tracebooklaw14.ClockRates", spec := "clockRates", unfollowed := true, recurses := true, apart := false }
def ClockRatesSaid : Prop := clockRatesRow.holds Try.pinned (OpenSpec.ofChange clockRatesSpec)

/-- ITS FALSE NEIGHBOUR: 'it returns false'. Refute it at one input. -/
def clockRatesWrong : ChangeSpec := { name := "clockRates", fn := fun _ => fun
  | [d1, d2] => { results := [.lit (.bool false)], args := [d1, d2] }
  | _ => none }
def ClockRatesWrongFalsely : Prop := clockRatesRow.holds Try.pinned (OpenSpec.ofChange clockRatesWrong)

/-- 'tracebooklaw14.ClockLinks': WHATEVER THE INPUT: true; the input reads as it did. -/
def clockLinksSpec : ChangeSpec := { name := "clockLinks", fn := fun _ => fun
  | [d1, d2, d3] => { results := [.lit (.bool true)], args := [d1, d2, d3] }
  | _ => none }
def clockLinksRow : OpenClaim := { program := "ytkdalahepedghaa", sum := "7234bb3b27b7357b4f5d80228892a600739e57750756e91e594a2dd8a7d03196", func := "tracebook/tracebooklaw14.ClockLinks", spec := "clockLinks", unfollowed := true, recurses := true, apart := false }
def ClockLinksSaid : Prop := clockLinksRow.holds Try.pinned (OpenSpec.ofChange clockLinksSpec)

/-- ITS FALSE NEIGHBOUR: 'it returns false'. Refute it at one input. -/
def clockLinksWrong : ChangeSpec := { name := "clockLinks", fn := fun _ => fun
  | [d1, d2, d3] => { results := [.lit (.bool false)], args := [d1, d2, d3] }
  | _ => none }
def ClockLinksWrongFalsely : Prop := clockLinksRow.holds Try.pinned (OpenSpec.ofChange clockLinksWrong)

/-- 'tracebooklaw14.ClockPairs': WHATEVER THE INPUT: true; the input reads as it did. -/
def clockPairsSpec : ChangeSpec := { name := "clockPairs", fn := fun _ => fun
  | [d1, d2] => { results := [.lit (.bool true)], args := [d1, d2] }
  | _ => none }
def clockPairsRow : OpenClaim := { program := "ytkdalahepedghaa", sum := "7234bb3b27b7357b4f5d80228892a600739e57750756e91e594a2dd8a7d03196", func := "tracebook/tracebooklaw14.ClockPairs", spec := "clockPairs", unfollowed := true, recurses := true, apart := false }
def ClockPairsSaid : Prop := clockPairsRow.holds Try.pinned (OpenSpec.ofChange clockPairsSpec)

/-- ITS FALSE NEIGHBOUR: 'it returns false'. Refute it at one input. -/
def clockPairsWrong : ChangeSpec := { name := "clockPairs", fn := fun _ => fun
  | [d1, d2] => { results := [.lit (.bool false)], args := [d1, d2] }
  | _ => none }
def ClockPairsWrongFalsely : Prop := clockPairsRow.holds Try.pinned (OpenSpec.ofChange clockPairsWrong)

/-- 'tracebooklaw14.ClockGrows': WHATEVER THE INPUT: true; the input reads as it did. -/
def clockGrowsSpec : ChangeSpec := { name := "clockGrows", fn := fun _ => fun
  | [d1, d2, d3] => { results := [.lit (.bool true)], args := [d1, d2, d3] }
  | _ => none }
def clockGrowsRow : OpenClaim := { program := "ytkdalahepedghaa", sum := "7234bb3b27b7357b4f5d80228892a600739e57750756e91e594a2dd8a7d03196", func := "tracebook/tracebooklaw14.ClockGrows", spec := "clockGrows", unfollowed := true, recurses := true, apart := false }
def ClockGrowsSaid : Prop := clockGrowsRow.holds Try.pinned (OpenSpec.ofChange clockGrowsSpec)

/-- ITS FALSE NEIGHBOUR: 'it returns false'. Refute it at one input. -/
def clockGrowsWrong : ChangeSpec := { name := "clockGrows", fn := fun _ => fun
  | [d1, d2, d3] => { results := [.lit (.bool false)], args := [d1, d2, d3] }
  | _ => none }
def ClockGrowsWrongFalsely : Prop := clockGrowsRow.holds Try.pinned (OpenSpec.ofChange clockGrowsWrong)

/-- 'tracebooklaw14.ClockPoints': WHATEVER THE INPUT: true; the input reads as it did. -/
def clockPointsSpec : ChangeSpec := { name := "clockPoints", fn := fun _ => fun
  | [d1, d2] => { results := [.lit (.bool true)], args := [d1, d2] }
  | _ => none }
def clockPointsRow : OpenClaim := { program := "ytkdalahepedghaa", sum := "7234bb3b27b7357b4f5d80228892a600739e57750756e91e594a2dd8a7d03196", func := "tracebook/tracebooklaw14.ClockPoints", spec := "clockPoints", unfollowed := true, recurses := true, apart := false }
def ClockPointsSaid : Prop := clockPointsRow.holds Try.pinned (OpenSpec.ofChange clockPointsSpec)

/-- ITS FALSE NEIGHBOUR: 'it returns false'. Refute it at one input. -/
def clockPointsWrong : ChangeSpec := { name := "clockPoints", fn := fun _ => fun
  | [d1, d2] => { results := [.lit (.bool false)], args := [d1, d2] }
  | _ => none }
def ClockPointsWrongFalsely : Prop := clockPointsRow.holds Try.pinned (OpenSpec.ofChange clockPointsWrong)

/-- 'tracebooklaw14.ClockUnites': WHATEVER THE INPUT: true; the input reads as it did. -/
def clockUnitesSpec : ChangeSpec := { name := "clockUnites", fn := fun _ => fun
  | [d1, d2, d3] => { results := [.lit (.bool true)], args := [d1, d2, d3] }
  | _ => none }
def clockUnitesRow : OpenClaim := { program := "ytkdalahepedghaa", sum := "7234bb3b27b7357b4f5d80228892a600739e57750756e91e594a2dd8a7d03196", func := "tracebook/tracebooklaw14.ClockUnites", spec := "clockUnites", unfollowed := true, recurses := true, apart := false }
def ClockUnitesSaid : Prop := clockUnitesRow.holds Try.pinned (OpenSpec.ofChange clockUnitesSpec)

/-- ITS FALSE NEIGHBOUR: 'it returns false'. Refute it at one input. -/
def clockUnitesWrong : ChangeSpec := { name := "clockUnites", fn := fun _ => fun
  | [d1, d2, d3] => { results := [.lit (.bool false)], args := [d1, d2, d3] }
  | _ => none }
def ClockUnitesWrongFalsely : Prop := clockUnitesRow.holds Try.pinned (OpenSpec.ofChange clockUnitesWrong)

/- THE SECOND FORM. 'bulk': how many values and letters a reading holds, each counted each time it is reached (what is shared counts as often as it is met; a slice's spare places count too). A statement '..UptoSaid' is the law's where the arguments, and the package variables that the reading takes, are together of bulk at most 1048576: NARROWER than '..Said'. Prove '..Said' where nothing that the law and all that it calls make is longer than what came in: it says more and counts as full. Else prove '..UptoSaid'. A law counts once. -/
mutual
def uptoBulk {H : Type} : DataW H → Nat
  | .lit (.string bytes) => bytes.length + 1
  | .lit _ => 1
  | .nil => 1
  | .ptr d => uptoBulk d + 1
  | .slice elems spare => uptoBulkAll elems + uptoBulkAll spare + 1
  | .agg parts => uptoBulkAll parts + 1
  | .iface _ d => uptoBulk d + 1
  | .map entries => uptoBulkEntries entries + 1
  | .held _ => 1
def uptoBulkAll {H : Type} : List (DataW H) → Nat
  | [] => 0
  | d :: r => uptoBulk d + uptoBulkAll r
def uptoBulkEntries {H : Type} : List (Lit × DataW H) → Nat
  | [] => 0
  | x :: r => uptoBulkEntry x + uptoBulkEntries r
def uptoBulkEntry {H : Type} : Lit × DataW H → Nat
  | (.string bytes, d) => bytes.length + uptoBulk d + 1
  | (_, d) => uptoBulk d + 1
 end
def uptoSmall : (H : Type) → List (DataW H) → Bool := fun _ ds => decide (uptoBulkAll ds ≤ 1048576)
def OpenSpec.upto (s : _root_.Go.ChangeSpec) : _root_.Go.OpenSpec := { _root_.Go.OpenSpec.ofChange s with cond := some uptoSmall }

/-- 'tracebooklaw14.ClockChecks', WHERE WHAT IT READS IS OF BULK AT MOST 1048576: true; the input reads as it did. -/
def clockChecksUptoRow : OpenClaim := { program := "ytkdalahepedghaa", sum := "7234bb3b27b7357b4f5d80228892a600739e57750756e91e594a2dd8a7d03196", func := "tracebook/tracebooklaw14.ClockChecks", spec := "clockChecks", unfollowed := true, recurses := true, apart := false, narrowed := true }
def ClockChecksUptoSaid : Prop := clockChecksUptoRow.holds Try.pinned (OpenSpec.upto clockChecksSpec)

/-- 'tracebooklaw14.ClockRates', WHERE WHAT IT READS IS OF BULK AT MOST 1048576: true; the input reads as it did. -/
def clockRatesUptoRow : OpenClaim := { program := "ytkdalahepedghaa", sum := "7234bb3b27b7357b4f5d80228892a600739e57750756e91e594a2dd8a7d03196", func := "tracebook/tracebooklaw14.ClockRates", spec := "clockRates", unfollowed := true, recurses := true, apart := false, narrowed := true }
def ClockRatesUptoSaid : Prop := clockRatesUptoRow.holds Try.pinned (OpenSpec.upto clockRatesSpec)

/-- 'tracebooklaw14.ClockLinks', WHERE WHAT IT READS IS OF BULK AT MOST 1048576: true; the input reads as it did. -/
def clockLinksUptoRow : OpenClaim := { program := "ytkdalahepedghaa", sum := "7234bb3b27b7357b4f5d80228892a600739e57750756e91e594a2dd8a7d03196", func := "tracebook/tracebooklaw14.ClockLinks", spec := "clockLinks", unfollowed := true, recurses := true, apart := false, narrowed := true }
def ClockLinksUptoSaid : Prop := clockLinksUptoRow.holds Try.pinned (OpenSpec.upto clockLinksSpec)

/-- 'tracebooklaw14.ClockPairs', WHERE WHAT IT READS IS OF BULK AT MOST 1048576: true; the input reads as it did. -/
def clockPairsUptoRow : OpenClaim := { program := "ytkdalahepedghaa", sum := "7234bb3b27b7357b4f5d80228892a600739e57750756e91e594a2dd8a7d03196", func := "tracebook/tracebooklaw14.ClockPairs", spec := "clockPairs", unfollowed := true, recurses := true, apart := false, narrowed := true }
def ClockPairsUptoSaid : Prop := clockPairsUptoRow.holds Try.pinned (OpenSpec.upto clockPairsSpec)

/-- 'tracebooklaw14.ClockGrows', WHERE WHAT IT READS IS OF BULK AT MOST 1048576: true; the input reads as it did. -/
def clockGrowsUptoRow : OpenClaim := { program := "ytkdalahepedghaa", sum := "7234bb3b27b7357b4f5d80228892a600739e57750756e91e594a2dd8a7d03196", func := "tracebook/tracebooklaw14.ClockGrows", spec := "clockGrows", unfollowed := true, recurses := true, apart := false, narrowed := true }
def ClockGrowsUptoSaid : Prop := clockGrowsUptoRow.holds Try.pinned (OpenSpec.upto clockGrowsSpec)

/-- 'tracebooklaw14.ClockPoints', WHERE WHAT IT READS IS OF BULK AT MOST 1048576: true; the input reads as it did. -/
def clockPointsUptoRow : OpenClaim := { program := "ytkdalahepedghaa", sum := "7234bb3b27b7357b4f5d80228892a600739e57750756e91e594a2dd8a7d03196", func := "tracebook/tracebooklaw14.ClockPoints", spec := "clockPoints", unfollowed := true, recurses := true, apart := false, narrowed := true }
def ClockPointsUptoSaid : Prop := clockPointsUptoRow.holds Try.pinned (OpenSpec.upto clockPointsSpec)

/-- 'tracebooklaw14.ClockUnites', WHERE WHAT IT READS IS OF BULK AT MOST 1048576: true; the input reads as it did. -/
def clockUnitesUptoRow : OpenClaim := { program := "ytkdalahepedghaa", sum := "7234bb3b27b7357b4f5d80228892a600739e57750756e91e594a2dd8a7d03196", func := "tracebook/tracebooklaw14.ClockUnites", spec := "clockUnites", unfollowed := true, recurses := true, apart := false, narrowed := true }
def ClockUnitesUptoSaid : Prop := clockUnitesUptoRow.holds Try.pinned (OpenSpec.upto clockUnitesSpec)

end Rows
end Go.Proofs.Ytkdalahepedghaa
