/-
  No cell of these rows narrows 'for every input' (looked for: loops, veiled, ifaces, maps, wideKeys, modest, calm, conditions, laid).
  DERIVED. THE GIVEN ROWS OF THIS SEAT. 6 by the template 'for every input the law returns true; each argument reads behind the call as it read before'; 0 by the template 'total and deterministic' (their statements: YtkbmaedofhiegaaTotals.lean).
  GIVEN WITH THE SEED: the statements are not yours to turn. If you find one false, say at which input.
  Laid BY PROGRAM, IN A SANDBOX (cutbox-rows.mjs): the forced cells as the released guide's own fill.sh prints them over the translation 003dedd37f1f5047… (all of the seat's roots in one cut). By AI agents, Wed Nov 11 2026. No macro, syntax, notation, axiom, sorry.
-/
import Derived.Test.YtkbmaedofhiegaaChecked
import GoSem.Claim
import GoSem.ClaimJoined
import GoSem.ClaimMapViews
import Derived.JoinedTies
import Derived.KernelRfl
namespace Go.Proofs.Ytkbmaedofhiegaa
/- THE CELL 'sum', in the pinned program and in every row, IS THE sha256 OF THE DUMP (.gsa) THAT YtkbmaedofhiegaaProg.lean LOADS. Nothing in Lean hashes anything: it is a label: what it is worth is what the hold of that sum in a sandbox is worth. -/
noncomputable def Try.pinned : Pinned := { name := "ytkbmaedofhiegaa", sum := "003dedd37f1f5047c315df619ccadb847aeabc37fbaa43976b40e3a5c7d6c64f", checked := Try.checked }
namespace Rows
def none {H : Type} : Left H := { results := [], args := [] }

/-- 'tracebooklaw03.IntervalExact': WHATEVER THE INPUT: true; the input reads as it did. -/
def intervalExactSpec : ChangeSpec := { name := "intervalExact", fn := fun _ => fun
  | [d1, d2, d3] => { results := [.lit (.bool true)], args := [d1, d2, d3] }
  | _ => none }
def intervalExactRow : OpenClaim := { program := "ytkbmaedofhiegaa", sum := "003dedd37f1f5047c315df619ccadb847aeabc37fbaa43976b40e3a5c7d6c64f", func := "tracebook/tracebooklaw03.IntervalExact", spec := "intervalExact", recurses := true, named := ["math/bits.divideError", "math/bits.overflowError"], apart := false }
def IntervalExactSaid : Prop := intervalExactRow.holds Try.pinned (OpenSpec.ofChange intervalExactSpec)

/-- ITS FALSE NEIGHBOUR: 'it returns false'. Refute it at one input. -/
def intervalExactWrong : ChangeSpec := { name := "intervalExact", fn := fun _ => fun
  | [d1, d2, d3] => { results := [.lit (.bool false)], args := [d1, d2, d3] }
  | _ => none }
def IntervalExactWrongFalsely : Prop := intervalExactRow.holds Try.pinned (OpenSpec.ofChange intervalExactWrong)

/-- 'tracebooklaw03.IntervalStretch': WHATEVER THE INPUT: true; the input reads as it did. -/
def intervalStretchSpec : ChangeSpec := { name := "intervalStretch", fn := fun _ => fun
  | [d1, d2] => { results := [.lit (.bool true)], args := [d1, d2] }
  | _ => none }
def intervalStretchRow : OpenClaim := { program := "ytkbmaedofhiegaa", sum := "003dedd37f1f5047c315df619ccadb847aeabc37fbaa43976b40e3a5c7d6c64f", func := "tracebook/tracebooklaw03.IntervalStretch", spec := "intervalStretch", recurses := true, named := ["math/bits.divideError", "math/bits.overflowError"], apart := false }
def IntervalStretchSaid : Prop := intervalStretchRow.holds Try.pinned (OpenSpec.ofChange intervalStretchSpec)

/-- ITS FALSE NEIGHBOUR: 'it returns false'. Refute it at one input. -/
def intervalStretchWrong : ChangeSpec := { name := "intervalStretch", fn := fun _ => fun
  | [d1, d2] => { results := [.lit (.bool false)], args := [d1, d2] }
  | _ => none }
def IntervalStretchWrongFalsely : Prop := intervalStretchRow.holds Try.pinned (OpenSpec.ofChange intervalStretchWrong)

/-- 'tracebooklaw03.IntervalMembers': WHATEVER THE INPUT: true; the input reads as it did. -/
def intervalMembersSpec : ChangeSpec := { name := "intervalMembers", fn := fun _ => fun
  | [d1, d2, d3] => { results := [.lit (.bool true)], args := [d1, d2, d3] }
  | _ => none }
def intervalMembersRow : OpenClaim := { program := "ytkbmaedofhiegaa", sum := "003dedd37f1f5047c315df619ccadb847aeabc37fbaa43976b40e3a5c7d6c64f", func := "tracebook/tracebooklaw03.IntervalMembers", spec := "intervalMembers", recurses := true, named := ["math/bits.divideError", "math/bits.overflowError"], apart := false }
def IntervalMembersSaid : Prop := intervalMembersRow.holds Try.pinned (OpenSpec.ofChange intervalMembersSpec)

/-- ITS FALSE NEIGHBOUR: 'it returns false'. Refute it at one input. -/
def intervalMembersWrong : ChangeSpec := { name := "intervalMembers", fn := fun _ => fun
  | [d1, d2, d3] => { results := [.lit (.bool false)], args := [d1, d2, d3] }
  | _ => none }
def IntervalMembersWrongFalsely : Prop := intervalMembersRow.holds Try.pinned (OpenSpec.ofChange intervalMembersWrong)

/-- 'tracebooklaw03.IntervalSums': WHATEVER THE INPUT: true; the input reads as it did. -/
def intervalSumsSpec : ChangeSpec := { name := "intervalSums", fn := fun _ => fun
  | [d1, d2, d3] => { results := [.lit (.bool true)], args := [d1, d2, d3] }
  | _ => none }
def intervalSumsRow : OpenClaim := { program := "ytkbmaedofhiegaa", sum := "003dedd37f1f5047c315df619ccadb847aeabc37fbaa43976b40e3a5c7d6c64f", func := "tracebook/tracebooklaw03.IntervalSums", spec := "intervalSums", recurses := true, named := ["math/bits.divideError", "math/bits.overflowError"], apart := false }
def IntervalSumsSaid : Prop := intervalSumsRow.holds Try.pinned (OpenSpec.ofChange intervalSumsSpec)

/-- ITS FALSE NEIGHBOUR: 'it returns false'. Refute it at one input. -/
def intervalSumsWrong : ChangeSpec := { name := "intervalSums", fn := fun _ => fun
  | [d1, d2, d3] => { results := [.lit (.bool false)], args := [d1, d2, d3] }
  | _ => none }
def IntervalSumsWrongFalsely : Prop := intervalSumsRow.holds Try.pinned (OpenSpec.ofChange intervalSumsWrong)

/-- 'tracebooklaw03.IntervalDrift': WHATEVER THE INPUT: true; the input reads as it did. -/
def intervalDriftSpec : ChangeSpec := { name := "intervalDrift", fn := fun _ => fun
  | [d1, d2, d3] => { results := [.lit (.bool true)], args := [d1, d2, d3] }
  | _ => none }
def intervalDriftRow : OpenClaim := { program := "ytkbmaedofhiegaa", sum := "003dedd37f1f5047c315df619ccadb847aeabc37fbaa43976b40e3a5c7d6c64f", func := "tracebook/tracebooklaw03.IntervalDrift", spec := "intervalDrift", recurses := true, named := ["math/bits.divideError", "math/bits.overflowError"], apart := false }
def IntervalDriftSaid : Prop := intervalDriftRow.holds Try.pinned (OpenSpec.ofChange intervalDriftSpec)

/-- ITS FALSE NEIGHBOUR: 'it returns false'. Refute it at one input. -/
def intervalDriftWrong : ChangeSpec := { name := "intervalDrift", fn := fun _ => fun
  | [d1, d2, d3] => { results := [.lit (.bool false)], args := [d1, d2, d3] }
  | _ => none }
def IntervalDriftWrongFalsely : Prop := intervalDriftRow.holds Try.pinned (OpenSpec.ofChange intervalDriftWrong)

/-- 'tracebooklaw03.IntervalParts': WHATEVER THE INPUT: true; the input reads as it did. -/
def intervalPartsSpec : ChangeSpec := { name := "intervalParts", fn := fun _ => fun
  | [d1, d2, d3] => { results := [.lit (.bool true)], args := [d1, d2, d3] }
  | _ => none }
def intervalPartsRow : OpenClaim := { program := "ytkbmaedofhiegaa", sum := "003dedd37f1f5047c315df619ccadb847aeabc37fbaa43976b40e3a5c7d6c64f", func := "tracebook/tracebooklaw03.IntervalParts", spec := "intervalParts", recurses := true, named := ["math/bits.divideError", "math/bits.overflowError"], apart := false }
def IntervalPartsSaid : Prop := intervalPartsRow.holds Try.pinned (OpenSpec.ofChange intervalPartsSpec)

/-- ITS FALSE NEIGHBOUR: 'it returns false'. Refute it at one input. -/
def intervalPartsWrong : ChangeSpec := { name := "intervalParts", fn := fun _ => fun
  | [d1, d2, d3] => { results := [.lit (.bool false)], args := [d1, d2, d3] }
  | _ => none }
def IntervalPartsWrongFalsely : Prop := intervalPartsRow.holds Try.pinned (OpenSpec.ofChange intervalPartsWrong)

/- THE SECOND FORM. 'bulk': how many values and letters a reading holds, each counted each time it is reached (what is shared counts as often as it is met; a slice's spare places count too). A statement '..UptoSaid' is the law's where the arguments, and the package variables that the reading takes, are together of bulk at most 1048576: NARROWER than '..Said'. Prove '..Said' where nothing that the law and all that it calls make is longer than what came in: it says more and counts as full. Else prove '..UptoSaid'. A law counts once. -/
mutual
def uptoBulk {H : Type} : DataW H → Nat
  | .lit (.string bytes) => bytes.length + 1
  | .lit _ => 1
  | .nil => 1
  | .ptr d => uptoBulk d + 1
  | .slice elems spare => uptoBulkAll elems + uptoBulkAll spare + 1
  | .agg parts => uptoBulkAll parts + 1
  | .iface _ d => uptoBulk d + 1
  | .map entries => uptoBulkEntries entries + 1
  | .held _ => 1
def uptoBulkAll {H : Type} : List (DataW H) → Nat
  | [] => 0
  | d :: r => uptoBulk d + uptoBulkAll r
def uptoBulkEntries {H : Type} : List (Lit × DataW H) → Nat
  | [] => 0
  | x :: r => uptoBulkEntry x + uptoBulkEntries r
def uptoBulkEntry {H : Type} : Lit × DataW H → Nat
  | (.string bytes, d) => bytes.length + uptoBulk d + 1
  | (_, d) => uptoBulk d + 1
 end
def uptoSmall : (H : Type) → List (DataW H) → Bool := fun _ ds => decide (uptoBulkAll ds ≤ 1048576)
def OpenSpec.upto (s : _root_.Go.ChangeSpec) : _root_.Go.OpenSpec := { _root_.Go.OpenSpec.ofChange s with cond := some uptoSmall }

/-- 'tracebooklaw03.IntervalExact', WHERE WHAT IT READS IS OF BULK AT MOST 1048576: true; the input reads as it did. -/
def intervalExactUptoRow : OpenClaim := { program := "ytkbmaedofhiegaa", sum := "003dedd37f1f5047c315df619ccadb847aeabc37fbaa43976b40e3a5c7d6c64f", func := "tracebook/tracebooklaw03.IntervalExact", spec := "intervalExact", recurses := true, named := ["math/bits.divideError", "math/bits.overflowError"], apart := false, narrowed := true }
def IntervalExactUptoSaid : Prop := intervalExactUptoRow.holds Try.pinned (OpenSpec.upto intervalExactSpec)

/-- 'tracebooklaw03.IntervalStretch', WHERE WHAT IT READS IS OF BULK AT MOST 1048576: true; the input reads as it did. -/
def intervalStretchUptoRow : OpenClaim := { program := "ytkbmaedofhiegaa", sum := "003dedd37f1f5047c315df619ccadb847aeabc37fbaa43976b40e3a5c7d6c64f", func := "tracebook/tracebooklaw03.IntervalStretch", spec := "intervalStretch", recurses := true, named := ["math/bits.divideError", "math/bits.overflowError"], apart := false, narrowed := true }
def IntervalStretchUptoSaid : Prop := intervalStretchUptoRow.holds Try.pinned (OpenSpec.upto intervalStretchSpec)

/-- 'tracebooklaw03.IntervalMembers', WHERE WHAT IT READS IS OF BULK AT MOST 1048576: true; the input reads as it did. -/
def intervalMembersUptoRow : OpenClaim := { program := "ytkbmaedofhiegaa", sum := "003dedd37f1f5047c315df619ccadb847aeabc37fbaa43976b40e3a5c7d6c64f", func := "tracebook/tracebooklaw03.IntervalMembers", spec := "intervalMembers", recurses := true, named := ["math/bits.divideError", "math/bits.overflowError"], apart := false, narrowed := true }
def IntervalMembersUptoSaid : Prop := intervalMembersUptoRow.holds Try.pinned (OpenSpec.upto intervalMembersSpec)

/-- 'tracebooklaw03.IntervalSums', WHERE WHAT IT READS IS OF BULK AT MOST 1048576: true; the input reads as it did. -/
def intervalSumsUptoRow : OpenClaim := { program := "ytkbmaedofhiegaa", sum := "003dedd37f1f5047c315df619ccadb847aeabc37fbaa43976b40e3a5c7d6c64f", func := "tracebook/tracebooklaw03.IntervalSums", spec := "intervalSums", recurses := true, named := ["math/bits.divideError", "math/bits.overflowError"], apart := false, narrowed := true }
def IntervalSumsUptoSaid : Prop := intervalSumsUptoRow.holds Try.pinned (OpenSpec.upto intervalSumsSpec)

/-- 'tracebooklaw03.IntervalDrift', WHERE WHAT IT READS IS OF BULK AT MOST 1048576: true; the input reads as it did. -/
def intervalDriftUptoRow : OpenClaim := { program := "ytkbmaedofhiegaa", sum := "003dedd37f1f5047c315df619ccadb847aeabc37fbaa43976b40e3a5c7d6c64f", func := "tracebook/tracebooklaw03.IntervalDrift", spec := "intervalDrift", recurses := true, named := ["math/bits.divideError", "math/bits.overflowError"], apart := false, narrowed := true }
def IntervalDriftUptoSaid : Prop := intervalDriftUptoRow.holds Try.pinned (OpenSpec.upto intervalDriftSpec)

/-- 'tracebooklaw03.IntervalParts', WHERE WHAT IT READS IS OF BULK AT MOST 1048576: true; the input reads as it did. -/
def intervalPartsUptoRow : OpenClaim := { program := "ytkbmaedofhiegaa", sum := "003dedd37f1f5047c315df619ccadb847aeabc37fbaa43976b40e3a5c7d6c64f", func := "tracebook/tracebooklaw03.IntervalParts", spec := "intervalParts", recurses := true, named := ["math/bits.divideError", "math/bits.overflowError"], apart := false, narrowed := true }
def IntervalPartsUptoSaid : Prop := intervalPartsUptoRow.holds Try.pinned (OpenSpec.upto intervalPartsSpec)

end Rows
end Go.Proofs.Ytkbmaedofhiegaa
