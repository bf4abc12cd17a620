/-
  DERIVED. GIVEN WITH THE SEED: THE CARDS: each row of YtgdpgbldjpeopaaGreatDoorRows.lean that lists a variable, with what it lists TIED to the program's text (the seventh form; the later family's looks); each row that meets fmt, with fmt's text TOLD by the authors' own Lean function (tested against real Go, not proved from fmt's source: count such statements apart). THE CARD IS WHAT COUNTS. Prove the row's statement (the work); the ties are given (YtgdpgbldjpeopaaGreatDoorTie.lean); close each card by the builder's one call (the guide's Derived/Test/ToyasCard.lean, 'card_holds'). Laid BY PROGRAM, IN A SANDBOX (cutbox-door.mjs). By AI agents, Wed Nov 11 2026. No macro, syntax, notation, axiom, sorry.
-/
import Derived.Test.YtgdpgbldjpeopaaGreatDoorRows
import GoSem.ClaimSeven
namespace Go.Proofs.YtgdpgbldjpeopaaGreatDoor
namespace Rows

/-- THE TIED CARD OF 'cayleylaw.ProdSemiParts'. -/
def prodSemiPartsCard : Claim7 := { stood := { row := prodSemiPartsRow, standIns := [], harness := (true, "4ea2c3aa9f0d4615c38e1d29526483e535159448a35a24b58c8b779060a653ef"), looks := false }, kinds := [], alts := [], laidByText := true, laidKinds := [.data], laidTests := true, laidLooks := .later }
def ProdSemiPartsCardSaid : Prop := Claim7.holds Tryz.pinned (.plain (OpenSpec.ofChange prodSemiPartsSpec)) prodSemiPartsCard

/-- THE SECOND FORM's CARD OF 'cayleylaw.ProdSemiParts'. -/
def prodSemiPartsUptoCard : Claim7 := { stood := { row := prodSemiPartsUptoRow, standIns := [], harness := (true, "4ea2c3aa9f0d4615c38e1d29526483e535159448a35a24b58c8b779060a653ef"), looks := false }, kinds := [], alts := [], laidByText := true, laidKinds := [.data], laidTests := true, laidLooks := .later }
def ProdSemiPartsUptoCardSaid : Prop := Claim7.holds Tryz.pinned (.plain (OpenSpec.upto prodSemiPartsSpec)) prodSemiPartsUptoCard
end Rows
end Go.Proofs.YtgdpgbldjpeopaaGreatDoor
