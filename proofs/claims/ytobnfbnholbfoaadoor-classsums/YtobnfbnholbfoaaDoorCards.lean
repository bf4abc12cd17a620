/-
  DERIVED. GIVEN WITH THE SEED: THE CARDS: each row of YtobnfbnholbfoaaDoorRows.lean that lists a variable, with what it lists TIED to the program's text (the seventh form; the later family's looks); each row that meets fmt, with fmt's text TOLD by the authors' own Lean function (tested against real Go, not proved from fmt's source: count such statements apart). THE CARD IS WHAT COUNTS. Prove the row's statement (the work); the ties are given (YtobnfbnholbfoaaDoorTie.lean); close each card by the builder's one call (the guide's Derived/Test/ToyasCard.lean, 'card_holds'). Laid BY PROGRAM, IN A SANDBOX (cutbox-door.mjs). By AI agents, Wed Nov 11 2026. No macro, syntax, notation, axiom, sorry.
-/
import Derived.Test.YtobnfbnholbfoaaDoorRows
import GoSem.ClaimSeven
namespace Go.Proofs.YtobnfbnholbfoaaDoor
namespace Rows

/-- THE TIED CARD OF 'cayleylaw.ClassAll'. -/
def classAllCard : Claim7 := { stood := { row := classAllRow, standIns := [], harness := (true, "29a167fed43dffe6899c0b06064f23c66392493fe5b93705376653134c10228b"), looks := false }, kinds := [], alts := [], laidByText := true, laidKinds := [.data], laidTests := true, laidLooks := .later }
def ClassAllCardSaid : Prop := Claim7.holds Tryd.pinned (.plain (OpenSpec.ofChange classAllSpec)) classAllCard

/-- THE TIED CARD OF 'cayleylaw.ClassTimes'. -/
def classTimesCard : Claim7 := { stood := { row := classTimesRow, standIns := [], harness := (true, "29a167fed43dffe6899c0b06064f23c66392493fe5b93705376653134c10228b"), looks := false }, kinds := [], alts := [], laidByText := true, laidKinds := [.data], laidTests := true, laidLooks := .later }
def ClassTimesCardSaid : Prop := Claim7.holds Tryd.pinned (.plain (OpenSpec.ofChange classTimesSpec)) classTimesCard

/-- THE TIED CARD OF 'cayleylaw.ClassPowers'. -/
def classPowersCard : Claim7 := { stood := { row := classPowersRow, standIns := [], harness := (true, "29a167fed43dffe6899c0b06064f23c66392493fe5b93705376653134c10228b"), looks := false }, kinds := [], alts := [], laidByText := true, laidKinds := [.data], laidTests := true, laidLooks := .later }
def ClassPowersCardSaid : Prop := Claim7.holds Tryd.pinned (.plain (OpenSpec.ofChange classPowersSpec)) classPowersCard

/-- THE TIED CARD OF 'cayleylaw.ClassSums'. -/
def classSumsCard : Claim7 := { stood := { row := classSumsRow, standIns := [], harness := (true, "29a167fed43dffe6899c0b06064f23c66392493fe5b93705376653134c10228b"), looks := false }, kinds := [], alts := [], laidByText := true, laidKinds := [.data], laidTests := true, laidLooks := .later }
def ClassSumsCardSaid : Prop := Claim7.holds Tryd.pinned (.plain (OpenSpec.ofChange classSumsSpec)) classSumsCard

/-- THE TIED CARD OF 'cayleylaw.ClassCentres'. -/
def classCentresCard : Claim7 := { stood := { row := classCentresRow, standIns := [], harness := (true, "29a167fed43dffe6899c0b06064f23c66392493fe5b93705376653134c10228b"), looks := false }, kinds := [], alts := [], laidByText := true, laidKinds := [.data], laidTests := true, laidLooks := .later }
def ClassCentresCardSaid : Prop := Claim7.holds Tryd.pinned (.plain (OpenSpec.ofChange classCentresSpec)) classCentresCard

/-- THE TIED CARD OF 'cayleylaw.ClassQuotients'. -/
def classQuotientsCard : Claim7 := { stood := { row := classQuotientsRow, standIns := [], harness := (true, "29a167fed43dffe6899c0b06064f23c66392493fe5b93705376653134c10228b"), looks := false }, kinds := [], alts := [], laidByText := true, laidKinds := [.data], laidTests := true, laidLooks := .later }
def ClassQuotientsCardSaid : Prop := Claim7.holds Tryd.pinned (.plain (OpenSpec.ofChange classQuotientsSpec)) classQuotientsCard

/-- THE SECOND FORM's CARD OF 'cayleylaw.ClassAll'. -/
def classAllUptoCard : Claim7 := { stood := { row := classAllUptoRow, standIns := [], harness := (true, "29a167fed43dffe6899c0b06064f23c66392493fe5b93705376653134c10228b"), looks := false }, kinds := [], alts := [], laidByText := true, laidKinds := [.data], laidTests := true, laidLooks := .later }
def ClassAllUptoCardSaid : Prop := Claim7.holds Tryd.pinned (.plain (OpenSpec.upto classAllSpec)) classAllUptoCard

/-- THE SECOND FORM's CARD OF 'cayleylaw.ClassTimes'. -/
def classTimesUptoCard : Claim7 := { stood := { row := classTimesUptoRow, standIns := [], harness := (true, "29a167fed43dffe6899c0b06064f23c66392493fe5b93705376653134c10228b"), looks := false }, kinds := [], alts := [], laidByText := true, laidKinds := [.data], laidTests := true, laidLooks := .later }
def ClassTimesUptoCardSaid : Prop := Claim7.holds Tryd.pinned (.plain (OpenSpec.upto classTimesSpec)) classTimesUptoCard

/-- THE SECOND FORM's CARD OF 'cayleylaw.ClassPowers'. -/
def classPowersUptoCard : Claim7 := { stood := { row := classPowersUptoRow, standIns := [], harness := (true, "29a167fed43dffe6899c0b06064f23c66392493fe5b93705376653134c10228b"), looks := false }, kinds := [], alts := [], laidByText := true, laidKinds := [.data], laidTests := true, laidLooks := .later }
def ClassPowersUptoCardSaid : Prop := Claim7.holds Tryd.pinned (.plain (OpenSpec.upto classPowersSpec)) classPowersUptoCard

/-- THE SECOND FORM's CARD OF 'cayleylaw.ClassSums'. -/
def classSumsUptoCard : Claim7 := { stood := { row := classSumsUptoRow, standIns := [], harness := (true, "29a167fed43dffe6899c0b06064f23c66392493fe5b93705376653134c10228b"), looks := false }, kinds := [], alts := [], laidByText := true, laidKinds := [.data], laidTests := true, laidLooks := .later }
def ClassSumsUptoCardSaid : Prop := Claim7.holds Tryd.pinned (.plain (OpenSpec.upto classSumsSpec)) classSumsUptoCard

/-- THE SECOND FORM's CARD OF 'cayleylaw.ClassCentres'. -/
def classCentresUptoCard : Claim7 := { stood := { row := classCentresUptoRow, standIns := [], harness := (true, "29a167fed43dffe6899c0b06064f23c66392493fe5b93705376653134c10228b"), looks := false }, kinds := [], alts := [], laidByText := true, laidKinds := [.data], laidTests := true, laidLooks := .later }
def ClassCentresUptoCardSaid : Prop := Claim7.holds Tryd.pinned (.plain (OpenSpec.upto classCentresSpec)) classCentresUptoCard

/-- THE SECOND FORM's CARD OF 'cayleylaw.ClassQuotients'. -/
def classQuotientsUptoCard : Claim7 := { stood := { row := classQuotientsUptoRow, standIns := [], harness := (true, "29a167fed43dffe6899c0b06064f23c66392493fe5b93705376653134c10228b"), looks := false }, kinds := [], alts := [], laidByText := true, laidKinds := [.data], laidTests := true, laidLooks := .later }
def ClassQuotientsUptoCardSaid : Prop := Claim7.holds Tryd.pinned (.plain (OpenSpec.upto classQuotientsSpec)) classQuotientsUptoCard
end Rows
end Go.Proofs.YtobnfbnholbfoaaDoor
