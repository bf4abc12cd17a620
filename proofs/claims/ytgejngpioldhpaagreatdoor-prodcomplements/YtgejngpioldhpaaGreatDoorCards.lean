/-
  DERIVED. GIVEN WITH THE SEED: THE CARDS: each row of YtgejngpioldhpaaGreatDoorRows.lean that lists a variable, with what it lists TIED to the program's text (the seventh form; the later family's looks); each row that meets fmt, with fmt's text TOLD by the authors' own Lean function (tested against real Go, not proved from fmt's source: count such statements apart). THE CARD IS WHAT COUNTS. Prove the row's statement (the work); the ties are given (YtgejngpioldhpaaGreatDoorTie.lean); close each card by the builder's one call (the guide's Derived/Test/ToyasCard.lean, 'card_holds'). Laid BY PROGRAM, IN A SANDBOX (cutbox-door.mjs). By AI agents, Wed Nov 11 2026. No macro, syntax, notation, axiom, sorry.
-/
import Derived.Test.YtgejngpioldhpaaGreatDoorRows
import GoSem.ClaimSeven
namespace Go.Proofs.YtgejngpioldhpaaGreatDoor
namespace Rows

/-- THE TIED CARD OF 'cayleylaw.ProdComplements'. -/
def prodComplementsCard : Claim7 := { stood := { row := prodComplementsRow, standIns := [], harness := (true, "d9a58528a31bbf577078b508b5b3687731f0a7471587b117a7e7e4b5c6f42467"), looks := false }, kinds := [], alts := [], laidByText := true, laidKinds := [.data], laidTests := true, laidLooks := .later }
def ProdComplementsCardSaid : Prop := Claim7.holds Tryz.pinned (.plain (OpenSpec.ofChange prodComplementsSpec)) prodComplementsCard

/-- THE TIED CARD OF 'cayleylaw.ProdSplit'. -/
def prodSplitCard : Claim7 := { stood := { row := prodSplitRow, standIns := [], harness := (true, "d9a58528a31bbf577078b508b5b3687731f0a7471587b117a7e7e4b5c6f42467"), looks := false }, kinds := [], alts := [], laidByText := true, laidKinds := [.data], laidTests := true, laidLooks := .later }
def ProdSplitCardSaid : Prop := Claim7.holds Tryz.pinned (.plain (OpenSpec.ofChange prodSplitSpec)) prodSplitCard

/-- THE SECOND FORM's CARD OF 'cayleylaw.ProdComplements'. -/
def prodComplementsUptoCard : Claim7 := { stood := { row := prodComplementsUptoRow, standIns := [], harness := (true, "d9a58528a31bbf577078b508b5b3687731f0a7471587b117a7e7e4b5c6f42467"), looks := false }, kinds := [], alts := [], laidByText := true, laidKinds := [.data], laidTests := true, laidLooks := .later }
def ProdComplementsUptoCardSaid : Prop := Claim7.holds Tryz.pinned (.plain (OpenSpec.upto prodComplementsSpec)) prodComplementsUptoCard

/-- THE SECOND FORM's CARD OF 'cayleylaw.ProdSplit'. -/
def prodSplitUptoCard : Claim7 := { stood := { row := prodSplitUptoRow, standIns := [], harness := (true, "d9a58528a31bbf577078b508b5b3687731f0a7471587b117a7e7e4b5c6f42467"), looks := false }, kinds := [], alts := [], laidByText := true, laidKinds := [.data], laidTests := true, laidLooks := .later }
def ProdSplitUptoCardSaid : Prop := Claim7.holds Tryz.pinned (.plain (OpenSpec.upto prodSplitSpec)) prodSplitUptoCard
end Rows
end Go.Proofs.YtgejngpioldhpaaGreatDoor
