/-
  DERIVED. GIVEN WITH THE SEED: THE CARDS: each row of YtanbpjfdfnmjpaaDoorRows.lean that lists a variable, with what it lists TIED to the program's text (the seventh form; the later family's looks); each row that meets fmt, with fmt's text TOLD by the authors' own Lean function (tested against real Go, not proved from fmt's source: count such statements apart). THE CARD IS WHAT COUNTS. Prove the row's statement (the work); the ties are given (YtanbpjfdfnmjpaaDoorTie.lean); close each card by the builder's one call (the guide's Derived/Test/ToyasCard.lean, 'card_holds'). Laid BY PROGRAM, IN A SANDBOX (cutbox-door.mjs). By AI agents, Wed Nov 11 2026. No macro, syntax, notation, axiom, sorry.
-/
import Derived.Test.YtanbpjfdfnmjpaaDoorRows
import GoSem.ClaimSeven
namespace Go.Proofs.YtanbpjfdfnmjpaaDoor
namespace Rows

/-- THE TIED CARD OF 'cayleylaw.ProdSemi'. -/
def prodSemiCard : Claim7 := { stood := { row := prodSemiRow, standIns := [], harness := (true, "ae49608ca679c483aaa51dab99da39a4f95318fa66a80e52816dfd64645a2c64"), looks := false }, kinds := [], alts := [], laidByText := true, laidKinds := [.data], laidTests := true, laidLooks := .later }
def ProdSemiCardSaid : Prop := Claim7.holds Tryd.pinned (.plain (OpenSpec.ofChange prodSemiSpec)) prodSemiCard

/-- THE TIED CARD OF 'cayleylaw.ProdDirect'. -/
def prodDirectCard : Claim7 := { stood := { row := prodDirectRow, standIns := [], harness := (true, "ae49608ca679c483aaa51dab99da39a4f95318fa66a80e52816dfd64645a2c64"), looks := false }, kinds := [], alts := [], laidByText := true, laidKinds := [.data], laidTests := true, laidLooks := .later }
def ProdDirectCardSaid : Prop := Claim7.holds Tryd.pinned (.plain (OpenSpec.ofChange prodDirectSpec)) prodDirectCard

/-- THE TIED CARD OF 'cayleylaw.ProdPairs'. -/
def prodPairsCard : Claim7 := { stood := { row := prodPairsRow, standIns := [], harness := (true, "ae49608ca679c483aaa51dab99da39a4f95318fa66a80e52816dfd64645a2c64"), looks := false }, kinds := [], alts := [], laidByText := true, laidKinds := [.data], laidTests := true, laidLooks := .later }
def ProdPairsCardSaid : Prop := Claim7.holds Tryd.pinned (.plain (OpenSpec.ofChange prodPairsSpec)) prodPairsCard

/-- THE SECOND FORM's CARD OF 'cayleylaw.ProdSemi'. -/
def prodSemiUptoCard : Claim7 := { stood := { row := prodSemiUptoRow, standIns := [], harness := (true, "ae49608ca679c483aaa51dab99da39a4f95318fa66a80e52816dfd64645a2c64"), looks := false }, kinds := [], alts := [], laidByText := true, laidKinds := [.data], laidTests := true, laidLooks := .later }
def ProdSemiUptoCardSaid : Prop := Claim7.holds Tryd.pinned (.plain (OpenSpec.upto prodSemiSpec)) prodSemiUptoCard

/-- THE SECOND FORM's CARD OF 'cayleylaw.ProdDirect'. -/
def prodDirectUptoCard : Claim7 := { stood := { row := prodDirectUptoRow, standIns := [], harness := (true, "ae49608ca679c483aaa51dab99da39a4f95318fa66a80e52816dfd64645a2c64"), looks := false }, kinds := [], alts := [], laidByText := true, laidKinds := [.data], laidTests := true, laidLooks := .later }
def ProdDirectUptoCardSaid : Prop := Claim7.holds Tryd.pinned (.plain (OpenSpec.upto prodDirectSpec)) prodDirectUptoCard

/-- THE SECOND FORM's CARD OF 'cayleylaw.ProdPairs'. -/
def prodPairsUptoCard : Claim7 := { stood := { row := prodPairsUptoRow, standIns := [], harness := (true, "ae49608ca679c483aaa51dab99da39a4f95318fa66a80e52816dfd64645a2c64"), looks := false }, kinds := [], alts := [], laidByText := true, laidKinds := [.data], laidTests := true, laidLooks := .later }
def ProdPairsUptoCardSaid : Prop := Claim7.holds Tryd.pinned (.plain (OpenSpec.upto prodPairsSpec)) prodPairsUptoCard
end Rows
end Go.Proofs.YtanbpjfdfnmjpaaDoor
