/-
  DERIVED. GIVEN WITH THE SEED: THE CARDS: each row of YtddglikicokpeaaDoorRows.lean that lists a variable, with what it lists TIED to the program's text (the seventh form; the later family's looks); each row that meets fmt, with fmt's text TOLD by the authors' own Lean function (tested against real Go, not proved from fmt's source: count such statements apart). THE CARD IS WHAT COUNTS. Prove the row's statement (the work); the ties are given (YtddglikicokpeaaDoorTie.lean); close each card by the builder's one call (the guide's Derived/Test/ToyasCard.lean, 'card_holds'). Laid BY PROGRAM, IN A SANDBOX (cutbox-door.mjs). By AI agents, Wed Nov 11 2026. No macro, syntax, notation, axiom, sorry.
-/
import Derived.Test.YtddglikicokpeaaDoorRows
import GoSem.ClaimSeven
namespace Go.Proofs.YtddglikicokpeaaDoor
namespace Rows

/-- THE TIED CARD OF 'tracebooklaw02.FracMakes'. -/
def fracMakesCard : Claim7 := { stood := { row := fracMakesRow, standIns := [], harness := (true, "a32184689e10016cd5e42fbcaac4fa174d5f3099431ebe813df467f678754d7b"), looks := false }, kinds := [], alts := [], laidByText := true, laidKinds := [.data, .data, .data], laidTests := true, laidLooks := .later }
def FracMakesCardSaid : Prop := Claim7.holds Tryd.pinned (.plain (OpenSpec.ofChange fracMakesSpec)) fracMakesCard

/-- THE TIED CARD OF 'tracebooklaw02.FracChecks'. -/
def fracChecksCard : Claim7 := { stood := { row := fracChecksRow, standIns := [], harness := (true, "a32184689e10016cd5e42fbcaac4fa174d5f3099431ebe813df467f678754d7b"), looks := false }, kinds := [], alts := [], laidByText := true, laidKinds := [.data, .data, .data], laidTests := true, laidLooks := .later }
def FracChecksCardSaid : Prop := Claim7.holds Tryd.pinned (.plain (OpenSpec.ofChange fracChecksSpec)) fracChecksCard

/-- THE TIED CARD OF 'tracebooklaw02.FracExact'. -/
def fracExactCard : Claim7 := { stood := { row := fracExactRow, standIns := [], harness := (true, "a32184689e10016cd5e42fbcaac4fa174d5f3099431ebe813df467f678754d7b"), looks := false }, kinds := [], alts := [], laidByText := true, laidKinds := [.data, .data, .data], laidTests := true, laidLooks := .later }
def FracExactCardSaid : Prop := Claim7.holds Tryd.pinned (.plain (OpenSpec.ofChange fracExactSpec)) fracExactCard

/-- THE TIED CARD OF 'tracebooklaw02.FracField'. -/
def fracFieldCard : Claim7 := { stood := { row := fracFieldRow, standIns := [], harness := (true, "a32184689e10016cd5e42fbcaac4fa174d5f3099431ebe813df467f678754d7b"), looks := false }, kinds := [], alts := [], laidByText := true, laidKinds := [.data, .data, .data], laidTests := true, laidLooks := .later }
def FracFieldCardSaid : Prop := Claim7.holds Tryd.pinned (.plain (OpenSpec.ofChange fracFieldSpec)) fracFieldCard

/-- THE TIED CARD OF 'tracebooklaw02.FracOrders'. -/
def fracOrdersCard : Claim7 := { stood := { row := fracOrdersRow, standIns := [], harness := (true, "a32184689e10016cd5e42fbcaac4fa174d5f3099431ebe813df467f678754d7b"), looks := false }, kinds := [], alts := [], laidByText := true, laidKinds := [.data, .data, .data], laidTests := true, laidLooks := .later }
def FracOrdersCardSaid : Prop := Claim7.holds Tryd.pinned (.plain (OpenSpec.ofChange fracOrdersSpec)) fracOrdersCard

/-- THE TIED CARD OF 'tracebooklaw02.FracSums'. -/
def fracSumsCard : Claim7 := { stood := { row := fracSumsRow, standIns := [], harness := (true, "a32184689e10016cd5e42fbcaac4fa174d5f3099431ebe813df467f678754d7b"), looks := false }, kinds := [], alts := [], laidByText := true, laidKinds := [.data, .data, .data], laidTests := true, laidLooks := .later }
def FracSumsCardSaid : Prop := Claim7.holds Tryd.pinned (.plain (OpenSpec.ofChange fracSumsSpec)) fracSumsCard

/-- THE TIED CARD OF 'tracebooklaw02.FracCancels'. -/
def fracCancelsCard : Claim7 := { stood := { row := fracCancelsRow, standIns := [], harness := (true, "a32184689e10016cd5e42fbcaac4fa174d5f3099431ebe813df467f678754d7b"), looks := false }, kinds := [], alts := [], laidByText := true, laidKinds := [.data, .data, .data], laidTests := true, laidLooks := .later }
def FracCancelsCardSaid : Prop := Claim7.holds Tryd.pinned (.plain (OpenSpec.ofChange fracCancelsSpec)) fracCancelsCard

/-- THE TIED CARD OF 'tracebooklaw02.FracLong'. -/
def fracLongCard : Claim7 := { stood := { row := fracLongRow, standIns := [], harness := (true, "a32184689e10016cd5e42fbcaac4fa174d5f3099431ebe813df467f678754d7b"), looks := false }, kinds := [], alts := [], laidByText := true, laidKinds := [.data, .data, .data], laidTests := true, laidLooks := .later }
def FracLongCardSaid : Prop := Claim7.holds Tryd.pinned (.plain (OpenSpec.ofChange fracLongSpec)) fracLongCard

/-- THE SECOND FORM's CARD OF 'tracebooklaw02.FracMakes'. -/
def fracMakesUptoCard : Claim7 := { stood := { row := fracMakesUptoRow, standIns := [], harness := (true, "a32184689e10016cd5e42fbcaac4fa174d5f3099431ebe813df467f678754d7b"), looks := false }, kinds := [], alts := [], laidByText := true, laidKinds := [.data, .data, .data], laidTests := true, laidLooks := .later }
def FracMakesUptoCardSaid : Prop := Claim7.holds Tryd.pinned (.plain (OpenSpec.upto fracMakesSpec)) fracMakesUptoCard

/-- THE SECOND FORM's CARD OF 'tracebooklaw02.FracChecks'. -/
def fracChecksUptoCard : Claim7 := { stood := { row := fracChecksUptoRow, standIns := [], harness := (true, "a32184689e10016cd5e42fbcaac4fa174d5f3099431ebe813df467f678754d7b"), looks := false }, kinds := [], alts := [], laidByText := true, laidKinds := [.data, .data, .data], laidTests := true, laidLooks := .later }
def FracChecksUptoCardSaid : Prop := Claim7.holds Tryd.pinned (.plain (OpenSpec.upto fracChecksSpec)) fracChecksUptoCard

/-- THE SECOND FORM's CARD OF 'tracebooklaw02.FracExact'. -/
def fracExactUptoCard : Claim7 := { stood := { row := fracExactUptoRow, standIns := [], harness := (true, "a32184689e10016cd5e42fbcaac4fa174d5f3099431ebe813df467f678754d7b"), looks := false }, kinds := [], alts := [], laidByText := true, laidKinds := [.data, .data, .data], laidTests := true, laidLooks := .later }
def FracExactUptoCardSaid : Prop := Claim7.holds Tryd.pinned (.plain (OpenSpec.upto fracExactSpec)) fracExactUptoCard

/-- THE SECOND FORM's CARD OF 'tracebooklaw02.FracField'. -/
def fracFieldUptoCard : Claim7 := { stood := { row := fracFieldUptoRow, standIns := [], harness := (true, "a32184689e10016cd5e42fbcaac4fa174d5f3099431ebe813df467f678754d7b"), looks := false }, kinds := [], alts := [], laidByText := true, laidKinds := [.data, .data, .data], laidTests := true, laidLooks := .later }
def FracFieldUptoCardSaid : Prop := Claim7.holds Tryd.pinned (.plain (OpenSpec.upto fracFieldSpec)) fracFieldUptoCard

/-- THE SECOND FORM's CARD OF 'tracebooklaw02.FracOrders'. -/
def fracOrdersUptoCard : Claim7 := { stood := { row := fracOrdersUptoRow, standIns := [], harness := (true, "a32184689e10016cd5e42fbcaac4fa174d5f3099431ebe813df467f678754d7b"), looks := false }, kinds := [], alts := [], laidByText := true, laidKinds := [.data, .data, .data], laidTests := true, laidLooks := .later }
def FracOrdersUptoCardSaid : Prop := Claim7.holds Tryd.pinned (.plain (OpenSpec.upto fracOrdersSpec)) fracOrdersUptoCard

/-- THE SECOND FORM's CARD OF 'tracebooklaw02.FracSums'. -/
def fracSumsUptoCard : Claim7 := { stood := { row := fracSumsUptoRow, standIns := [], harness := (true, "a32184689e10016cd5e42fbcaac4fa174d5f3099431ebe813df467f678754d7b"), looks := false }, kinds := [], alts := [], laidByText := true, laidKinds := [.data, .data, .data], laidTests := true, laidLooks := .later }
def FracSumsUptoCardSaid : Prop := Claim7.holds Tryd.pinned (.plain (OpenSpec.upto fracSumsSpec)) fracSumsUptoCard

/-- THE SECOND FORM's CARD OF 'tracebooklaw02.FracCancels'. -/
def fracCancelsUptoCard : Claim7 := { stood := { row := fracCancelsUptoRow, standIns := [], harness := (true, "a32184689e10016cd5e42fbcaac4fa174d5f3099431ebe813df467f678754d7b"), looks := false }, kinds := [], alts := [], laidByText := true, laidKinds := [.data, .data, .data], laidTests := true, laidLooks := .later }
def FracCancelsUptoCardSaid : Prop := Claim7.holds Tryd.pinned (.plain (OpenSpec.upto fracCancelsSpec)) fracCancelsUptoCard

/-- THE SECOND FORM's CARD OF 'tracebooklaw02.FracLong'. -/
def fracLongUptoCard : Claim7 := { stood := { row := fracLongUptoRow, standIns := [], harness := (true, "a32184689e10016cd5e42fbcaac4fa174d5f3099431ebe813df467f678754d7b"), looks := false }, kinds := [], alts := [], laidByText := true, laidKinds := [.data, .data, .data], laidTests := true, laidLooks := .later }
def FracLongUptoCardSaid : Prop := Claim7.holds Tryd.pinned (.plain (OpenSpec.upto fracLongSpec)) fracLongUptoCard
end Rows
end Go.Proofs.YtddglikicokpeaaDoor
