/-
  DERIVED. GIVEN WITH THE SEED: THE CARDS: each row of YtlhjeenijcokoaaGreatDoorRows.lean that lists a variable, with what it lists TIED to the program's text (the seventh form; the later family's looks); each row that meets fmt, with fmt's text TOLD by the authors' own Lean function (tested against real Go, not proved from fmt's source: count such statements apart). THE CARD IS WHAT COUNTS. Prove the row's statement (the work); the ties are given (YtlhjeenijcokoaaGreatDoorTie.lean); close each card by the builder's one call (the guide's Derived/Test/ToyasCard.lean, 'card_holds'). Laid BY PROGRAM, IN A SANDBOX (cutbox-door.mjs). By AI agents, Wed Nov 11 2026. No macro, syntax, notation, axiom, sorry.
-/
import Derived.Test.YtlhjeenijcokoaaGreatDoorRows
import GoSem.ClaimSeven
namespace Go.Proofs.YtlhjeenijcokoaaGreatDoor
namespace Rows

/-- THE TIED CARD OF 'cayleylaw.HomIso'. -/
def homIsoCard : Claim7 := { stood := { row := homIsoRow, standIns := [], harness := (true, "7a1858ec466187b43705d52e93eb1c8d2f8ed5939b7b246d3a28a9bf69d344ad"), looks := false }, kinds := [], alts := [], laidByText := true, laidKinds := [.data], laidTests := true, laidLooks := .later }
def HomIsoCardSaid : Prop := Claim7.holds Tryz.pinned (.plain (OpenSpec.ofChange homIsoSpec)) homIsoCard

/-- THE TIED CARD OF 'cayleylaw.QuotFirst'. -/
def quotFirstCard : Claim7 := { stood := { row := quotFirstRow, standIns := [], harness := (true, "7a1858ec466187b43705d52e93eb1c8d2f8ed5939b7b246d3a28a9bf69d344ad"), looks := false }, kinds := [], alts := [], laidByText := true, laidKinds := [.data], laidTests := true, laidLooks := .later }
def QuotFirstCardSaid : Prop := Claim7.holds Tryz.pinned (.plain (OpenSpec.ofChange quotFirstSpec)) quotFirstCard

/-- THE TIED CARD OF 'cayleylaw.QuotSecond'. -/
def quotSecondCard : Claim7 := { stood := { row := quotSecondRow, standIns := [], harness := (true, "7a1858ec466187b43705d52e93eb1c8d2f8ed5939b7b246d3a28a9bf69d344ad"), looks := false }, kinds := [], alts := [], laidByText := true, laidKinds := [.data], laidTests := true, laidLooks := .later }
def QuotSecondCardSaid : Prop := Claim7.holds Tryz.pinned (.plain (OpenSpec.ofChange quotSecondSpec)) quotSecondCard

/-- THE TIED CARD OF 'cayleylaw.QuotThird'. -/
def quotThirdCard : Claim7 := { stood := { row := quotThirdRow, standIns := [], harness := (true, "7a1858ec466187b43705d52e93eb1c8d2f8ed5939b7b246d3a28a9bf69d344ad"), looks := false }, kinds := [], alts := [], laidByText := true, laidKinds := [.data], laidTests := true, laidLooks := .later }
def QuotThirdCardSaid : Prop := Claim7.holds Tryz.pinned (.plain (OpenSpec.ofChange quotThirdSpec)) quotThirdCard

/-- THE SECOND FORM's CARD OF 'cayleylaw.HomIso'. -/
def homIsoUptoCard : Claim7 := { stood := { row := homIsoUptoRow, standIns := [], harness := (true, "7a1858ec466187b43705d52e93eb1c8d2f8ed5939b7b246d3a28a9bf69d344ad"), looks := false }, kinds := [], alts := [], laidByText := true, laidKinds := [.data], laidTests := true, laidLooks := .later }
def HomIsoUptoCardSaid : Prop := Claim7.holds Tryz.pinned (.plain (OpenSpec.upto homIsoSpec)) homIsoUptoCard

/-- THE SECOND FORM's CARD OF 'cayleylaw.QuotFirst'. -/
def quotFirstUptoCard : Claim7 := { stood := { row := quotFirstUptoRow, standIns := [], harness := (true, "7a1858ec466187b43705d52e93eb1c8d2f8ed5939b7b246d3a28a9bf69d344ad"), looks := false }, kinds := [], alts := [], laidByText := true, laidKinds := [.data], laidTests := true, laidLooks := .later }
def QuotFirstUptoCardSaid : Prop := Claim7.holds Tryz.pinned (.plain (OpenSpec.upto quotFirstSpec)) quotFirstUptoCard

/-- THE SECOND FORM's CARD OF 'cayleylaw.QuotSecond'. -/
def quotSecondUptoCard : Claim7 := { stood := { row := quotSecondUptoRow, standIns := [], harness := (true, "7a1858ec466187b43705d52e93eb1c8d2f8ed5939b7b246d3a28a9bf69d344ad"), looks := false }, kinds := [], alts := [], laidByText := true, laidKinds := [.data], laidTests := true, laidLooks := .later }
def QuotSecondUptoCardSaid : Prop := Claim7.holds Tryz.pinned (.plain (OpenSpec.upto quotSecondSpec)) quotSecondUptoCard

/-- THE SECOND FORM's CARD OF 'cayleylaw.QuotThird'. -/
def quotThirdUptoCard : Claim7 := { stood := { row := quotThirdUptoRow, standIns := [], harness := (true, "7a1858ec466187b43705d52e93eb1c8d2f8ed5939b7b246d3a28a9bf69d344ad"), looks := false }, kinds := [], alts := [], laidByText := true, laidKinds := [.data], laidTests := true, laidLooks := .later }
def QuotThirdUptoCardSaid : Prop := Claim7.holds Tryz.pinned (.plain (OpenSpec.upto quotThirdSpec)) quotThirdUptoCard
end Rows
end Go.Proofs.YtlhjeenijcokoaaGreatDoor
