/-
  DERIVED. GIVEN WITH THE SEED: THE CARDS: each row of YtojnjfkonaeegaaDoorRows.lean that lists a variable, with what it lists TIED to the program's text (the seventh form; the later family's looks); each row that meets fmt, with fmt's text TOLD by the authors' own Lean function (tested against real Go, not proved from fmt's source: count such statements apart). THE CARD IS WHAT COUNTS. Prove the row's statement (the work); the ties are given (YtojnjfkonaeegaaDoorTie.lean); close each card by the builder's one call (the guide's Derived/Test/ToyasCard.lean, 'card_holds'). Laid BY PROGRAM, IN A SANDBOX (cutbox-door.mjs). By AI agents, Wed Nov 11 2026. No macro, syntax, notation, axiom, sorry.
-/
import Derived.Test.YtojnjfkonaeegaaDoorRows
import GoSem.ClaimSeven
namespace Go.Proofs.YtojnjfkonaeegaaDoor
namespace Rows

/-- THE TIED CARD OF 'cayleylaw.BeadsLeast'. -/
def beadsLeastCard : Claim7 := { stood := { row := beadsLeastRow, standIns := [], harness := (true, "c7ed115d16112bb5b9927d595b1ba83de448f3c5e0e19746835a27687e55a6a0"), looks := false }, kinds := [], alts := [], laidByText := true, laidKinds := [.data, .data, .data], laidTests := true, laidLooks := .later }
def BeadsLeastCardSaid : Prop := Claim7.holds Tryd.pinned (.plain (OpenSpec.ofChange beadsLeastSpec)) beadsLeastCard

/-- THE TIED CARD OF 'cayleylaw.BeadsFactor'. -/
def beadsFactorCard : Claim7 := { stood := { row := beadsFactorRow, standIns := [], harness := (true, "c7ed115d16112bb5b9927d595b1ba83de448f3c5e0e19746835a27687e55a6a0"), looks := false }, kinds := [], alts := [], laidByText := true, laidKinds := [.data, .data, .data], laidTests := true, laidLooks := .later }
def BeadsFactorCardSaid : Prop := Claim7.holds Tryd.pinned (.plain (OpenSpec.ofChange beadsFactorSpec)) beadsFactorCard

/-- THE TIED CARD OF 'cayleylaw.BeadsTurns'. -/
def beadsTurnsCard : Claim7 := { stood := { row := beadsTurnsRow, standIns := [], harness := (true, "c7ed115d16112bb5b9927d595b1ba83de448f3c5e0e19746835a27687e55a6a0"), looks := false }, kinds := [], alts := [], laidByText := true, laidKinds := [.data, .data, .data], laidTests := true, laidLooks := .later }
def BeadsTurnsCardSaid : Prop := Claim7.holds Tryd.pinned (.plain (OpenSpec.ofChange beadsTurnsSpec)) beadsTurnsCard

/-- THE TIED CARD OF 'cayleylaw.BeadsFermat'. -/
def beadsFermatCard : Claim7 := { stood := { row := beadsFermatRow, standIns := [], harness := (true, "c7ed115d16112bb5b9927d595b1ba83de448f3c5e0e19746835a27687e55a6a0"), looks := false }, kinds := [], alts := [], laidByText := true, laidKinds := [.data, .data, .data], laidTests := true, laidLooks := .later }
def BeadsFermatCardSaid : Prop := Claim7.holds Tryd.pinned (.plain (OpenSpec.ofChange beadsFermatSpec)) beadsFermatCard

/-- THE SECOND FORM's CARD OF 'cayleylaw.BeadsLeast'. -/
def beadsLeastUptoCard : Claim7 := { stood := { row := beadsLeastUptoRow, standIns := [], harness := (true, "c7ed115d16112bb5b9927d595b1ba83de448f3c5e0e19746835a27687e55a6a0"), looks := false }, kinds := [], alts := [], laidByText := true, laidKinds := [.data, .data, .data], laidTests := true, laidLooks := .later }
def BeadsLeastUptoCardSaid : Prop := Claim7.holds Tryd.pinned (.plain (OpenSpec.upto beadsLeastSpec)) beadsLeastUptoCard

/-- THE SECOND FORM's CARD OF 'cayleylaw.BeadsFactor'. -/
def beadsFactorUptoCard : Claim7 := { stood := { row := beadsFactorUptoRow, standIns := [], harness := (true, "c7ed115d16112bb5b9927d595b1ba83de448f3c5e0e19746835a27687e55a6a0"), looks := false }, kinds := [], alts := [], laidByText := true, laidKinds := [.data, .data, .data], laidTests := true, laidLooks := .later }
def BeadsFactorUptoCardSaid : Prop := Claim7.holds Tryd.pinned (.plain (OpenSpec.upto beadsFactorSpec)) beadsFactorUptoCard

/-- THE SECOND FORM's CARD OF 'cayleylaw.BeadsTurns'. -/
def beadsTurnsUptoCard : Claim7 := { stood := { row := beadsTurnsUptoRow, standIns := [], harness := (true, "c7ed115d16112bb5b9927d595b1ba83de448f3c5e0e19746835a27687e55a6a0"), looks := false }, kinds := [], alts := [], laidByText := true, laidKinds := [.data, .data, .data], laidTests := true, laidLooks := .later }
def BeadsTurnsUptoCardSaid : Prop := Claim7.holds Tryd.pinned (.plain (OpenSpec.upto beadsTurnsSpec)) beadsTurnsUptoCard

/-- THE SECOND FORM's CARD OF 'cayleylaw.BeadsFermat'. -/
def beadsFermatUptoCard : Claim7 := { stood := { row := beadsFermatUptoRow, standIns := [], harness := (true, "c7ed115d16112bb5b9927d595b1ba83de448f3c5e0e19746835a27687e55a6a0"), looks := false }, kinds := [], alts := [], laidByText := true, laidKinds := [.data, .data, .data], laidTests := true, laidLooks := .later }
def BeadsFermatUptoCardSaid : Prop := Claim7.holds Tryd.pinned (.plain (OpenSpec.upto beadsFermatSpec)) beadsFermatUptoCard
end Rows
end Go.Proofs.YtojnjfkonaeegaaDoor
