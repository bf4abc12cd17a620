/-
  DERIVED. GIVEN WITH THE SEED: THE CARDS: each row of YtjiapicknkjhmaaGreatDoorRows.lean that lists a variable, with what it lists TIED to the program's text (the seventh form; the later family's looks); each row that meets fmt, with fmt's text TOLD by the authors' own Lean function (tested against real Go, not proved from fmt's source: count such statements apart). THE CARD IS WHAT COUNTS. Prove the row's statement (the work); the ties are given (YtjiapicknkjhmaaGreatDoorTie.lean); close each card by the builder's one call (the guide's Derived/Test/ToyasCard.lean, 'card_holds'). Laid BY PROGRAM, IN A SANDBOX (cutbox-door.mjs). By AI agents, Wed Nov 11 2026. No macro, syntax, notation, axiom, sorry.
-/
import Derived.Test.YtjiapicknkjhmaaGreatDoorRows
import GoSem.ClaimSeven
namespace Go.Proofs.YtjiapicknkjhmaaGreatDoor
namespace Rows

/-- THE TIED CARD OF 'cayleylaw.SeriesFactors'. -/
def seriesFactorsCard : Claim7 := { stood := { row := seriesFactorsRow, standIns := [], harness := (true, "6e262436c838dd90f1582848e60d42408f61bb1777b537017281665539df1a59"), looks := false }, kinds := [], alts := [], laidByText := true, laidKinds := [.data], laidTests := true, laidLooks := .later }
def SeriesFactorsCardSaid : Prop := Claim7.holds Tryz.pinned (.plain (OpenSpec.ofChange seriesFactorsSpec)) seriesFactorsCard

/-- THE TIED CARD OF 'cayleylaw.SeriesSolvable'. -/
def seriesSolvableCard : Claim7 := { stood := { row := seriesSolvableRow, standIns := [], harness := (true, "6e262436c838dd90f1582848e60d42408f61bb1777b537017281665539df1a59"), looks := false }, kinds := [], alts := [], laidByText := true, laidKinds := [.data], laidTests := true, laidLooks := .later }
def SeriesSolvableCardSaid : Prop := Claim7.holds Tryz.pinned (.plain (OpenSpec.ofChange seriesSolvableSpec)) seriesSolvableCard

/-- THE SECOND FORM's CARD OF 'cayleylaw.SeriesFactors'. -/
def seriesFactorsUptoCard : Claim7 := { stood := { row := seriesFactorsUptoRow, standIns := [], harness := (true, "6e262436c838dd90f1582848e60d42408f61bb1777b537017281665539df1a59"), looks := false }, kinds := [], alts := [], laidByText := true, laidKinds := [.data], laidTests := true, laidLooks := .later }
def SeriesFactorsUptoCardSaid : Prop := Claim7.holds Tryz.pinned (.plain (OpenSpec.upto seriesFactorsSpec)) seriesFactorsUptoCard

/-- THE SECOND FORM's CARD OF 'cayleylaw.SeriesSolvable'. -/
def seriesSolvableUptoCard : Claim7 := { stood := { row := seriesSolvableUptoRow, standIns := [], harness := (true, "6e262436c838dd90f1582848e60d42408f61bb1777b537017281665539df1a59"), looks := false }, kinds := [], alts := [], laidByText := true, laidKinds := [.data], laidTests := true, laidLooks := .later }
def SeriesSolvableUptoCardSaid : Prop := Claim7.holds Tryz.pinned (.plain (OpenSpec.upto seriesSolvableSpec)) seriesSolvableUptoCard
end Rows
end Go.Proofs.YtjiapicknkjhmaaGreatDoor
