/-
  DERIVED. GIVEN WITH THE SEED: THE CARDS: each row of YtodabkjadejekaaDoorRows.lean that lists a variable, with what it lists TIED to the program's text (the seventh form; the later family's looks); each row that meets fmt, with fmt's text TOLD by the authors' own Lean function (tested against real Go, not proved from fmt's source: count such statements apart). THE CARD IS WHAT COUNTS. Prove the row's statement (the work); the ties are given (YtodabkjadejekaaDoorTie.lean); close each card by the builder's one call (the guide's Derived/Test/ToyasCard.lean, 'card_holds'). Laid BY PROGRAM, IN A SANDBOX (cutbox-door.mjs). By AI agents, Wed Nov 11 2026. No macro, syntax, notation, axiom, sorry.
-/
import Derived.Test.YtodabkjadejekaaDoorRows
import GoSem.ClaimSeven
namespace Go.Proofs.YtodabkjadejekaaDoor
namespace Rows

/-- THE TIED CARD OF 'cayleylaw.HomChecks'. -/
def homChecksCard : Claim7 := { stood := { row := homChecksRow, standIns := [], harness := (true, "a68b8bff3f12afdd906e9550eb2487c3847d665159e19562140a90b9028884bf"), looks := false }, kinds := [], alts := [], laidByText := true, laidKinds := [.data], laidTests := true, laidLooks := .later }
def HomChecksCardSaid : Prop := Claim7.holds Tryd.pinned (.plain (OpenSpec.ofChange homChecksSpec)) homChecksCard

/-- THE TIED CARD OF 'cayleylaw.HomTheorem'. -/
def homTheoremCard : Claim7 := { stood := { row := homTheoremRow, standIns := [], harness := (true, "a68b8bff3f12afdd906e9550eb2487c3847d665159e19562140a90b9028884bf"), looks := false }, kinds := [], alts := [], laidByText := true, laidKinds := [.data], laidTests := true, laidLooks := .later }
def HomTheoremCardSaid : Prop := Claim7.holds Tryd.pinned (.plain (OpenSpec.ofChange homTheoremSpec)) homTheoremCard

/-- THE TIED CARD OF 'cayleylaw.HomOrders'. -/
def homOrdersCard : Claim7 := { stood := { row := homOrdersRow, standIns := [], harness := (true, "a68b8bff3f12afdd906e9550eb2487c3847d665159e19562140a90b9028884bf"), looks := false }, kinds := [], alts := [], laidByText := true, laidKinds := [.data], laidTests := true, laidLooks := .later }
def HomOrdersCardSaid : Prop := Claim7.holds Tryd.pinned (.plain (OpenSpec.ofChange homOrdersSpec)) homOrdersCard

/-- THE TIED CARD OF 'cayleylaw.HomComposes'. -/
def homComposesCard : Claim7 := { stood := { row := homComposesRow, standIns := [], harness := (true, "a68b8bff3f12afdd906e9550eb2487c3847d665159e19562140a90b9028884bf"), looks := false }, kinds := [], alts := [], laidByText := true, laidKinds := [.data], laidTests := true, laidLooks := .later }
def HomComposesCardSaid : Prop := Claim7.holds Tryd.pinned (.plain (OpenSpec.ofChange homComposesSpec)) homComposesCard

/-- THE TIED CARD OF 'cayleylaw.QuotMakes'. -/
def quotMakesCard : Claim7 := { stood := { row := quotMakesRow, standIns := [], harness := (true, "a68b8bff3f12afdd906e9550eb2487c3847d665159e19562140a90b9028884bf"), looks := false }, kinds := [], alts := [], laidByText := true, laidKinds := [.data], laidTests := true, laidLooks := .later }
def QuotMakesCardSaid : Prop := Claim7.holds Tryd.pinned (.plain (OpenSpec.ofChange quotMakesSpec)) quotMakesCard

/-- THE TIED CARD OF 'cayleylaw.QuotParts'. -/
def quotPartsCard : Claim7 := { stood := { row := quotPartsRow, standIns := [], harness := (true, "a68b8bff3f12afdd906e9550eb2487c3847d665159e19562140a90b9028884bf"), looks := false }, kinds := [], alts := [], laidByText := true, laidKinds := [.data], laidTests := true, laidLooks := .later }
def QuotPartsCardSaid : Prop := Claim7.holds Tryd.pinned (.plain (OpenSpec.ofChange quotPartsSpec)) quotPartsCard

/-- THE TIED CARD OF 'cayleylaw.QuotSimple'. -/
def quotSimpleCard : Claim7 := { stood := { row := quotSimpleRow, standIns := [], harness := (true, "a68b8bff3f12afdd906e9550eb2487c3847d665159e19562140a90b9028884bf"), looks := false }, kinds := [], alts := [], laidByText := true, laidKinds := [.data], laidTests := true, laidLooks := .later }
def QuotSimpleCardSaid : Prop := Claim7.holds Tryd.pinned (.plain (OpenSpec.ofChange quotSimpleSpec)) quotSimpleCard

/-- THE TIED CARD OF 'cayleylaw.QuotAbel'. -/
def quotAbelCard : Claim7 := { stood := { row := quotAbelRow, standIns := [], harness := (true, "a68b8bff3f12afdd906e9550eb2487c3847d665159e19562140a90b9028884bf"), looks := false }, kinds := [], alts := [], laidByText := true, laidKinds := [.data], laidTests := true, laidLooks := .later }
def QuotAbelCardSaid : Prop := Claim7.holds Tryd.pinned (.plain (OpenSpec.ofChange quotAbelSpec)) quotAbelCard

/-- THE SECOND FORM's CARD OF 'cayleylaw.HomChecks'. -/
def homChecksUptoCard : Claim7 := { stood := { row := homChecksUptoRow, standIns := [], harness := (true, "a68b8bff3f12afdd906e9550eb2487c3847d665159e19562140a90b9028884bf"), looks := false }, kinds := [], alts := [], laidByText := true, laidKinds := [.data], laidTests := true, laidLooks := .later }
def HomChecksUptoCardSaid : Prop := Claim7.holds Tryd.pinned (.plain (OpenSpec.upto homChecksSpec)) homChecksUptoCard

/-- THE SECOND FORM's CARD OF 'cayleylaw.HomTheorem'. -/
def homTheoremUptoCard : Claim7 := { stood := { row := homTheoremUptoRow, standIns := [], harness := (true, "a68b8bff3f12afdd906e9550eb2487c3847d665159e19562140a90b9028884bf"), looks := false }, kinds := [], alts := [], laidByText := true, laidKinds := [.data], laidTests := true, laidLooks := .later }
def HomTheoremUptoCardSaid : Prop := Claim7.holds Tryd.pinned (.plain (OpenSpec.upto homTheoremSpec)) homTheoremUptoCard

/-- THE SECOND FORM's CARD OF 'cayleylaw.HomOrders'. -/
def homOrdersUptoCard : Claim7 := { stood := { row := homOrdersUptoRow, standIns := [], harness := (true, "a68b8bff3f12afdd906e9550eb2487c3847d665159e19562140a90b9028884bf"), looks := false }, kinds := [], alts := [], laidByText := true, laidKinds := [.data], laidTests := true, laidLooks := .later }
def HomOrdersUptoCardSaid : Prop := Claim7.holds Tryd.pinned (.plain (OpenSpec.upto homOrdersSpec)) homOrdersUptoCard

/-- THE SECOND FORM's CARD OF 'cayleylaw.HomComposes'. -/
def homComposesUptoCard : Claim7 := { stood := { row := homComposesUptoRow, standIns := [], harness := (true, "a68b8bff3f12afdd906e9550eb2487c3847d665159e19562140a90b9028884bf"), looks := false }, kinds := [], alts := [], laidByText := true, laidKinds := [.data], laidTests := true, laidLooks := .later }
def HomComposesUptoCardSaid : Prop := Claim7.holds Tryd.pinned (.plain (OpenSpec.upto homComposesSpec)) homComposesUptoCard

/-- THE SECOND FORM's CARD OF 'cayleylaw.QuotMakes'. -/
def quotMakesUptoCard : Claim7 := { stood := { row := quotMakesUptoRow, standIns := [], harness := (true, "a68b8bff3f12afdd906e9550eb2487c3847d665159e19562140a90b9028884bf"), looks := false }, kinds := [], alts := [], laidByText := true, laidKinds := [.data], laidTests := true, laidLooks := .later }
def QuotMakesUptoCardSaid : Prop := Claim7.holds Tryd.pinned (.plain (OpenSpec.upto quotMakesSpec)) quotMakesUptoCard

/-- THE SECOND FORM's CARD OF 'cayleylaw.QuotParts'. -/
def quotPartsUptoCard : Claim7 := { stood := { row := quotPartsUptoRow, standIns := [], harness := (true, "a68b8bff3f12afdd906e9550eb2487c3847d665159e19562140a90b9028884bf"), looks := false }, kinds := [], alts := [], laidByText := true, laidKinds := [.data], laidTests := true, laidLooks := .later }
def QuotPartsUptoCardSaid : Prop := Claim7.holds Tryd.pinned (.plain (OpenSpec.upto quotPartsSpec)) quotPartsUptoCard

/-- THE SECOND FORM's CARD OF 'cayleylaw.QuotSimple'. -/
def quotSimpleUptoCard : Claim7 := { stood := { row := quotSimpleUptoRow, standIns := [], harness := (true, "a68b8bff3f12afdd906e9550eb2487c3847d665159e19562140a90b9028884bf"), looks := false }, kinds := [], alts := [], laidByText := true, laidKinds := [.data], laidTests := true, laidLooks := .later }
def QuotSimpleUptoCardSaid : Prop := Claim7.holds Tryd.pinned (.plain (OpenSpec.upto quotSimpleSpec)) quotSimpleUptoCard

/-- THE SECOND FORM's CARD OF 'cayleylaw.QuotAbel'. -/
def quotAbelUptoCard : Claim7 := { stood := { row := quotAbelUptoRow, standIns := [], harness := (true, "a68b8bff3f12afdd906e9550eb2487c3847d665159e19562140a90b9028884bf"), looks := false }, kinds := [], alts := [], laidByText := true, laidKinds := [.data], laidTests := true, laidLooks := .later }
def QuotAbelUptoCardSaid : Prop := Claim7.holds Tryd.pinned (.plain (OpenSpec.upto quotAbelSpec)) quotAbelUptoCard
end Rows
end Go.Proofs.YtodabkjadejekaaDoor
