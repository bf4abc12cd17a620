/-
  DERIVED. GIVEN WITH THE SEED: THE CARDS: each row of YtjchmhngfnlbhaaDoorRows.lean that lists a variable, with what it lists TIED to the program's text (the seventh form; the later family's looks); each row that meets fmt, with fmt's text TOLD by the authors' own Lean function (tested against real Go, not proved from fmt's source: count such statements apart). THE CARD IS WHAT COUNTS. Prove the row's statement (the work); the ties are given (YtjchmhngfnlbhaaDoorTie.lean); close each card by the builder's one call (the guide's Derived/Test/ToyasCard.lean, 'card_holds'). Laid BY PROGRAM, IN A SANDBOX (cutbox-door.mjs). By AI agents, Wed Nov 11 2026. No macro, syntax, notation, axiom, sorry.
-/
import Derived.Test.YtjchmhngfnlbhaaDoorRows
import GoSem.ClaimSeven
namespace Go.Proofs.YtjchmhngfnlbhaaDoor
namespace Rows

/-- THE TIED CARD OF 'cayleylaw.PermCycles'. -/
def permCyclesCard : Claim7 := { stood := { row := permCyclesRow, standIns := [], harness := (true, "0b1d956618299e620eef57de5b005dd1e01c0771bf631ac2212a039110942417"), looks := false }, kinds := [], alts := [], laidByText := true, laidKinds := [.data, .data, .data], laidTests := true, laidLooks := .later }
def PermCyclesCardSaid : Prop := Claim7.holds Tryd.pinned (.plain (OpenSpec.ofChange permCyclesSpec)) permCyclesCard

/-- THE TIED CARD OF 'cayleylaw.PermOrders'. -/
def permOrdersCard : Claim7 := { stood := { row := permOrdersRow, standIns := [], harness := (true, "0b1d956618299e620eef57de5b005dd1e01c0771bf631ac2212a039110942417"), looks := false }, kinds := [], alts := [], laidByText := true, laidKinds := [.data, .data, .data], laidTests := true, laidLooks := .later }
def PermOrdersCardSaid : Prop := Claim7.holds Tryd.pinned (.plain (OpenSpec.ofChange permOrdersSpec)) permOrdersCard

/-- THE TIED CARD OF 'cayleylaw.PermCauchy'. -/
def permCauchyCard : Claim7 := { stood := { row := permCauchyRow, standIns := [], harness := (true, "0b1d956618299e620eef57de5b005dd1e01c0771bf631ac2212a039110942417"), looks := false }, kinds := [], alts := [], laidByText := true, laidKinds := [.data, .data, .data], laidTests := true, laidLooks := .later }
def PermCauchyCardSaid : Prop := Claim7.holds Tryd.pinned (.plain (OpenSpec.ofChange permCauchySpec)) permCauchyCard

/-- THE TIED CARD OF 'cayleylaw.PermRanks'. -/
def permRanksCard : Claim7 := { stood := { row := permRanksRow, standIns := [], harness := (true, "0b1d956618299e620eef57de5b005dd1e01c0771bf631ac2212a039110942417"), looks := false }, kinds := [], alts := [], laidByText := true, laidKinds := [.data, .data, .data], laidTests := true, laidLooks := .later }
def PermRanksCardSaid : Prop := Claim7.holds Tryd.pinned (.plain (OpenSpec.ofChange permRanksSpec)) permRanksCard

/-- THE TIED CARD OF 'cayleylaw.PermSigns'. -/
def permSignsCard : Claim7 := { stood := { row := permSignsRow, standIns := [], harness := (true, "0b1d956618299e620eef57de5b005dd1e01c0771bf631ac2212a039110942417"), looks := false }, kinds := [], alts := [], laidByText := true, laidKinds := [.data, .data, .data], laidTests := true, laidLooks := .later }
def PermSignsCardSaid : Prop := Claim7.holds Tryd.pinned (.plain (OpenSpec.ofChange permSignsSpec)) permSignsCard

/-- THE TIED CARD OF 'cayleylaw.PermPowers'. -/
def permPowersCard : Claim7 := { stood := { row := permPowersRow, standIns := [], harness := (true, "0b1d956618299e620eef57de5b005dd1e01c0771bf631ac2212a039110942417"), looks := false }, kinds := [], alts := [], laidByText := true, laidKinds := [.data, .data, .data], laidTests := true, laidLooks := .later }
def PermPowersCardSaid : Prop := Claim7.holds Tryd.pinned (.plain (OpenSpec.ofChange permPowersSpec)) permPowersCard

/-- THE SECOND FORM's CARD OF 'cayleylaw.PermCycles'. -/
def permCyclesUptoCard : Claim7 := { stood := { row := permCyclesUptoRow, standIns := [], harness := (true, "0b1d956618299e620eef57de5b005dd1e01c0771bf631ac2212a039110942417"), looks := false }, kinds := [], alts := [], laidByText := true, laidKinds := [.data, .data, .data], laidTests := true, laidLooks := .later }
def PermCyclesUptoCardSaid : Prop := Claim7.holds Tryd.pinned (.plain (OpenSpec.upto permCyclesSpec)) permCyclesUptoCard

/-- THE SECOND FORM's CARD OF 'cayleylaw.PermOrders'. -/
def permOrdersUptoCard : Claim7 := { stood := { row := permOrdersUptoRow, standIns := [], harness := (true, "0b1d956618299e620eef57de5b005dd1e01c0771bf631ac2212a039110942417"), looks := false }, kinds := [], alts := [], laidByText := true, laidKinds := [.data, .data, .data], laidTests := true, laidLooks := .later }
def PermOrdersUptoCardSaid : Prop := Claim7.holds Tryd.pinned (.plain (OpenSpec.upto permOrdersSpec)) permOrdersUptoCard

/-- THE SECOND FORM's CARD OF 'cayleylaw.PermCauchy'. -/
def permCauchyUptoCard : Claim7 := { stood := { row := permCauchyUptoRow, standIns := [], harness := (true, "0b1d956618299e620eef57de5b005dd1e01c0771bf631ac2212a039110942417"), looks := false }, kinds := [], alts := [], laidByText := true, laidKinds := [.data, .data, .data], laidTests := true, laidLooks := .later }
def PermCauchyUptoCardSaid : Prop := Claim7.holds Tryd.pinned (.plain (OpenSpec.upto permCauchySpec)) permCauchyUptoCard

/-- THE SECOND FORM's CARD OF 'cayleylaw.PermRanks'. -/
def permRanksUptoCard : Claim7 := { stood := { row := permRanksUptoRow, standIns := [], harness := (true, "0b1d956618299e620eef57de5b005dd1e01c0771bf631ac2212a039110942417"), looks := false }, kinds := [], alts := [], laidByText := true, laidKinds := [.data, .data, .data], laidTests := true, laidLooks := .later }
def PermRanksUptoCardSaid : Prop := Claim7.holds Tryd.pinned (.plain (OpenSpec.upto permRanksSpec)) permRanksUptoCard

/-- THE SECOND FORM's CARD OF 'cayleylaw.PermSigns'. -/
def permSignsUptoCard : Claim7 := { stood := { row := permSignsUptoRow, standIns := [], harness := (true, "0b1d956618299e620eef57de5b005dd1e01c0771bf631ac2212a039110942417"), looks := false }, kinds := [], alts := [], laidByText := true, laidKinds := [.data, .data, .data], laidTests := true, laidLooks := .later }
def PermSignsUptoCardSaid : Prop := Claim7.holds Tryd.pinned (.plain (OpenSpec.upto permSignsSpec)) permSignsUptoCard

/-- THE SECOND FORM's CARD OF 'cayleylaw.PermPowers'. -/
def permPowersUptoCard : Claim7 := { stood := { row := permPowersUptoRow, standIns := [], harness := (true, "0b1d956618299e620eef57de5b005dd1e01c0771bf631ac2212a039110942417"), looks := false }, kinds := [], alts := [], laidByText := true, laidKinds := [.data, .data, .data], laidTests := true, laidLooks := .later }
def PermPowersUptoCardSaid : Prop := Claim7.holds Tryd.pinned (.plain (OpenSpec.upto permPowersSpec)) permPowersUptoCard
end Rows
end Go.Proofs.YtjchmhngfnlbhaaDoor
