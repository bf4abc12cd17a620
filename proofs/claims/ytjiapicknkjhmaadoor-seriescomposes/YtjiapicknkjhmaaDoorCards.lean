/-
  DERIVED. GIVEN WITH THE SEED: THE CARDS: each row of YtjiapicknkjhmaaDoorRows.lean that lists a variable, with what it lists TIED to the program's text (the seventh form; the later family's looks); each row that meets fmt, with fmt's text TOLD by the authors' own Lean function (tested against real Go, not proved from fmt's source: count such statements apart). THE CARD IS WHAT COUNTS. Prove the row's statement (the work); the ties are given (YtjiapicknkjhmaaDoorTie.lean); close each card by the builder's one call (the guide's Derived/Test/ToyasCard.lean, 'card_holds'). Laid BY PROGRAM, IN A SANDBOX (cutbox-door.mjs). By AI agents, Wed Nov 11 2026. No macro, syntax, notation, axiom, sorry.
-/
import Derived.Test.YtjiapicknkjhmaaDoorRows
import GoSem.ClaimSeven
namespace Go.Proofs.YtjiapicknkjhmaaDoor
namespace Rows

/-- THE TIED CARD OF 'cayleylaw.SylowFrattini'. -/
def sylowFrattiniCard : Claim7 := { stood := { row := sylowFrattiniRow, standIns := [], harness := (true, "ec2cb5e0ce126f0f923e0312aaaa868e0ae2f11abe9f9e1d0cbcf036206b74df"), looks := false }, kinds := [], alts := [], laidByText := true, laidKinds := [.data], laidTests := true, laidLooks := .later }
def SylowFrattiniCardSaid : Prop := Claim7.holds Tryd.pinned (.plain (OpenSpec.ofChange sylowFrattiniSpec)) sylowFrattiniCard

/-- THE TIED CARD OF 'cayleylaw.SeriesComposes'. -/
def seriesComposesCard : Claim7 := { stood := { row := seriesComposesRow, standIns := [], harness := (true, "ec2cb5e0ce126f0f923e0312aaaa868e0ae2f11abe9f9e1d0cbcf036206b74df"), looks := false }, kinds := [], alts := [], laidByText := true, laidKinds := [.data], laidTests := true, laidLooks := .later }
def SeriesComposesCardSaid : Prop := Claim7.holds Tryd.pinned (.plain (OpenSpec.ofChange seriesComposesSpec)) seriesComposesCard

/-- THE TIED CARD OF 'cayleylaw.SeriesJordan'. -/
def seriesJordanCard : Claim7 := { stood := { row := seriesJordanRow, standIns := [], harness := (true, "ec2cb5e0ce126f0f923e0312aaaa868e0ae2f11abe9f9e1d0cbcf036206b74df"), looks := false }, kinds := [], alts := [], laidByText := true, laidKinds := [.data], laidTests := true, laidLooks := .later }
def SeriesJordanCardSaid : Prop := Claim7.holds Tryd.pinned (.plain (OpenSpec.ofChange seriesJordanSpec)) seriesJordanCard

/-- THE SECOND FORM's CARD OF 'cayleylaw.SylowFrattini'. -/
def sylowFrattiniUptoCard : Claim7 := { stood := { row := sylowFrattiniUptoRow, standIns := [], harness := (true, "ec2cb5e0ce126f0f923e0312aaaa868e0ae2f11abe9f9e1d0cbcf036206b74df"), looks := false }, kinds := [], alts := [], laidByText := true, laidKinds := [.data], laidTests := true, laidLooks := .later }
def SylowFrattiniUptoCardSaid : Prop := Claim7.holds Tryd.pinned (.plain (OpenSpec.upto sylowFrattiniSpec)) sylowFrattiniUptoCard

/-- THE SECOND FORM's CARD OF 'cayleylaw.SeriesComposes'. -/
def seriesComposesUptoCard : Claim7 := { stood := { row := seriesComposesUptoRow, standIns := [], harness := (true, "ec2cb5e0ce126f0f923e0312aaaa868e0ae2f11abe9f9e1d0cbcf036206b74df"), looks := false }, kinds := [], alts := [], laidByText := true, laidKinds := [.data], laidTests := true, laidLooks := .later }
def SeriesComposesUptoCardSaid : Prop := Claim7.holds Tryd.pinned (.plain (OpenSpec.upto seriesComposesSpec)) seriesComposesUptoCard

/-- THE SECOND FORM's CARD OF 'cayleylaw.SeriesJordan'. -/
def seriesJordanUptoCard : Claim7 := { stood := { row := seriesJordanUptoRow, standIns := [], harness := (true, "ec2cb5e0ce126f0f923e0312aaaa868e0ae2f11abe9f9e1d0cbcf036206b74df"), looks := false }, kinds := [], alts := [], laidByText := true, laidKinds := [.data], laidTests := true, laidLooks := .later }
def SeriesJordanUptoCardSaid : Prop := Claim7.holds Tryd.pinned (.plain (OpenSpec.upto seriesJordanSpec)) seriesJordanUptoCard
end Rows
end Go.Proofs.YtjiapicknkjhmaaDoor
