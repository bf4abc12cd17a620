/-
  DERIVED. GIVEN WITH THE SEED: THE CARDS: each row of YtolbpjjjoafkkaaDoorRows.lean that lists a variable, with what it lists TIED to the program's text (the seventh form; the later family's looks); each row that meets fmt, with fmt's text TOLD by the authors' own Lean function (tested against real Go, not proved from fmt's source: count such statements apart). THE CARD IS WHAT COUNTS. Prove the row's statement (the work); the ties are given (YtolbpjjjoafkkaaDoorTie.lean); close each card by the builder's one call (the guide's Derived/Test/ToyasCard.lean, 'card_holds'). Laid BY PROGRAM, IN A SANDBOX (cutbox-door.mjs). By AI agents, Wed Nov 11 2026. No macro, syntax, notation, axiom, sorry.
-/
import Derived.Test.YtolbpjjjoafkkaaDoorRows
import GoSem.ClaimSeven
namespace Go.Proofs.YtolbpjjjoafkkaaDoor
namespace Rows

/-- THE TIED CARD OF 'cayleylaw.SylowAll'. -/
def sylowAllCard : Claim7 := { stood := { row := sylowAllRow, standIns := [], harness := (true, "ad936e95bdb2f45a3eccc2c0061b2a856a5ad448996d11c7800ba6935590665e"), looks := false }, kinds := [], alts := [], laidByText := true, laidKinds := [.data], laidTests := true, laidLooks := .later }
def SylowAllCardSaid : Prop := Claim7.holds Tryd.pinned (.plain (OpenSpec.ofChange sylowAllSpec)) sylowAllCard

/-- THE TIED CARD OF 'cayleylaw.SylowHolds'. -/
def sylowHoldsCard : Claim7 := { stood := { row := sylowHoldsRow, standIns := [], harness := (true, "ad936e95bdb2f45a3eccc2c0061b2a856a5ad448996d11c7800ba6935590665e"), looks := false }, kinds := [], alts := [], laidByText := true, laidKinds := [.data], laidTests := true, laidLooks := .later }
def SylowHoldsCardSaid : Prop := Claim7.holds Tryd.pinned (.plain (OpenSpec.ofChange sylowHoldsSpec)) sylowHoldsCard

/-- THE TIED CARD OF 'cayleylaw.SylowFrattini'. -/
def sylowFrattiniCard : Claim7 := { stood := { row := sylowFrattiniRow, standIns := [], harness := (true, "ad936e95bdb2f45a3eccc2c0061b2a856a5ad448996d11c7800ba6935590665e"), looks := false }, kinds := [], alts := [], laidByText := true, laidKinds := [.data], laidTests := true, laidLooks := .later }
def SylowFrattiniCardSaid : Prop := Claim7.holds Tryd.pinned (.plain (OpenSpec.ofChange sylowFrattiniSpec)) sylowFrattiniCard

/-- THE TIED CARD OF 'cayleylaw.SylowQuotients'. -/
def sylowQuotientsCard : Claim7 := { stood := { row := sylowQuotientsRow, standIns := [], harness := (true, "ad936e95bdb2f45a3eccc2c0061b2a856a5ad448996d11c7800ba6935590665e"), looks := false }, kinds := [], alts := [], laidByText := true, laidKinds := [.data], laidTests := true, laidLooks := .later }
def SylowQuotientsCardSaid : Prop := Claim7.holds Tryd.pinned (.plain (OpenSpec.ofChange sylowQuotientsSpec)) sylowQuotientsCard

/-- THE TIED CARD OF 'cayleylaw.SylowPowers'. -/
def sylowPowersCard : Claim7 := { stood := { row := sylowPowersRow, standIns := [], harness := (true, "ad936e95bdb2f45a3eccc2c0061b2a856a5ad448996d11c7800ba6935590665e"), looks := false }, kinds := [], alts := [], laidByText := true, laidKinds := [.data], laidTests := true, laidLooks := .later }
def SylowPowersCardSaid : Prop := Claim7.holds Tryd.pinned (.plain (OpenSpec.ofChange sylowPowersSpec)) sylowPowersCard

/-- THE TIED CARD OF 'cayleylaw.SeriesGo'. -/
def seriesGoCard : Claim7 := { stood := { row := seriesGoRow, standIns := [], harness := (true, "ad936e95bdb2f45a3eccc2c0061b2a856a5ad448996d11c7800ba6935590665e"), looks := false }, kinds := [], alts := [], laidByText := true, laidKinds := [.data], laidTests := true, laidLooks := .later }
def SeriesGoCardSaid : Prop := Claim7.holds Tryd.pinned (.plain (OpenSpec.ofChange seriesGoSpec)) seriesGoCard

/-- THE TIED CARD OF 'cayleylaw.SeriesComposes'. -/
def seriesComposesCard : Claim7 := { stood := { row := seriesComposesRow, standIns := [], harness := (true, "ad936e95bdb2f45a3eccc2c0061b2a856a5ad448996d11c7800ba6935590665e"), looks := false }, kinds := [], alts := [], laidByText := true, laidKinds := [.data], laidTests := true, laidLooks := .later }
def SeriesComposesCardSaid : Prop := Claim7.holds Tryd.pinned (.plain (OpenSpec.ofChange seriesComposesSpec)) seriesComposesCard

/-- THE TIED CARD OF 'cayleylaw.SeriesNilpotent'. -/
def seriesNilpotentCard : Claim7 := { stood := { row := seriesNilpotentRow, standIns := [], harness := (true, "ad936e95bdb2f45a3eccc2c0061b2a856a5ad448996d11c7800ba6935590665e"), looks := false }, kinds := [], alts := [], laidByText := true, laidKinds := [.data], laidTests := true, laidLooks := .later }
def SeriesNilpotentCardSaid : Prop := Claim7.holds Tryd.pinned (.plain (OpenSpec.ofChange seriesNilpotentSpec)) seriesNilpotentCard

/-- THE TIED CARD OF 'cayleylaw.SeriesNormal'. -/
def seriesNormalCard : Claim7 := { stood := { row := seriesNormalRow, standIns := [], harness := (true, "ad936e95bdb2f45a3eccc2c0061b2a856a5ad448996d11c7800ba6935590665e"), looks := false }, kinds := [], alts := [], laidByText := true, laidKinds := [.data], laidTests := true, laidLooks := .later }
def SeriesNormalCardSaid : Prop := Claim7.holds Tryd.pinned (.plain (OpenSpec.ofChange seriesNormalSpec)) seriesNormalCard

/-- THE TIED CARD OF 'cayleylaw.SeriesGrow'. -/
def seriesGrowCard : Claim7 := { stood := { row := seriesGrowRow, standIns := [], harness := (true, "ad936e95bdb2f45a3eccc2c0061b2a856a5ad448996d11c7800ba6935590665e"), looks := false }, kinds := [], alts := [], laidByText := true, laidKinds := [.data], laidTests := true, laidLooks := .later }
def SeriesGrowCardSaid : Prop := Claim7.holds Tryd.pinned (.plain (OpenSpec.ofChange seriesGrowSpec)) seriesGrowCard

/-- THE SECOND FORM's CARD OF 'cayleylaw.SylowAll'. -/
def sylowAllUptoCard : Claim7 := { stood := { row := sylowAllUptoRow, standIns := [], harness := (true, "ad936e95bdb2f45a3eccc2c0061b2a856a5ad448996d11c7800ba6935590665e"), looks := false }, kinds := [], alts := [], laidByText := true, laidKinds := [.data], laidTests := true, laidLooks := .later }
def SylowAllUptoCardSaid : Prop := Claim7.holds Tryd.pinned (.plain (OpenSpec.upto sylowAllSpec)) sylowAllUptoCard

/-- THE SECOND FORM's CARD OF 'cayleylaw.SylowHolds'. -/
def sylowHoldsUptoCard : Claim7 := { stood := { row := sylowHoldsUptoRow, standIns := [], harness := (true, "ad936e95bdb2f45a3eccc2c0061b2a856a5ad448996d11c7800ba6935590665e"), looks := false }, kinds := [], alts := [], laidByText := true, laidKinds := [.data], laidTests := true, laidLooks := .later }
def SylowHoldsUptoCardSaid : Prop := Claim7.holds Tryd.pinned (.plain (OpenSpec.upto sylowHoldsSpec)) sylowHoldsUptoCard

/-- THE SECOND FORM's CARD OF 'cayleylaw.SylowFrattini'. -/
def sylowFrattiniUptoCard : Claim7 := { stood := { row := sylowFrattiniUptoRow, standIns := [], harness := (true, "ad936e95bdb2f45a3eccc2c0061b2a856a5ad448996d11c7800ba6935590665e"), looks := false }, kinds := [], alts := [], laidByText := true, laidKinds := [.data], laidTests := true, laidLooks := .later }
def SylowFrattiniUptoCardSaid : Prop := Claim7.holds Tryd.pinned (.plain (OpenSpec.upto sylowFrattiniSpec)) sylowFrattiniUptoCard

/-- THE SECOND FORM's CARD OF 'cayleylaw.SylowQuotients'. -/
def sylowQuotientsUptoCard : Claim7 := { stood := { row := sylowQuotientsUptoRow, standIns := [], harness := (true, "ad936e95bdb2f45a3eccc2c0061b2a856a5ad448996d11c7800ba6935590665e"), looks := false }, kinds := [], alts := [], laidByText := true, laidKinds := [.data], laidTests := true, laidLooks := .later }
def SylowQuotientsUptoCardSaid : Prop := Claim7.holds Tryd.pinned (.plain (OpenSpec.upto sylowQuotientsSpec)) sylowQuotientsUptoCard

/-- THE SECOND FORM's CARD OF 'cayleylaw.SylowPowers'. -/
def sylowPowersUptoCard : Claim7 := { stood := { row := sylowPowersUptoRow, standIns := [], harness := (true, "ad936e95bdb2f45a3eccc2c0061b2a856a5ad448996d11c7800ba6935590665e"), looks := false }, kinds := [], alts := [], laidByText := true, laidKinds := [.data], laidTests := true, laidLooks := .later }
def SylowPowersUptoCardSaid : Prop := Claim7.holds Tryd.pinned (.plain (OpenSpec.upto sylowPowersSpec)) sylowPowersUptoCard

/-- THE SECOND FORM's CARD OF 'cayleylaw.SeriesGo'. -/
def seriesGoUptoCard : Claim7 := { stood := { row := seriesGoUptoRow, standIns := [], harness := (true, "ad936e95bdb2f45a3eccc2c0061b2a856a5ad448996d11c7800ba6935590665e"), looks := false }, kinds := [], alts := [], laidByText := true, laidKinds := [.data], laidTests := true, laidLooks := .later }
def SeriesGoUptoCardSaid : Prop := Claim7.holds Tryd.pinned (.plain (OpenSpec.upto seriesGoSpec)) seriesGoUptoCard

/-- THE SECOND FORM's CARD OF 'cayleylaw.SeriesComposes'. -/
def seriesComposesUptoCard : Claim7 := { stood := { row := seriesComposesUptoRow, standIns := [], harness := (true, "ad936e95bdb2f45a3eccc2c0061b2a856a5ad448996d11c7800ba6935590665e"), looks := false }, kinds := [], alts := [], laidByText := true, laidKinds := [.data], laidTests := true, laidLooks := .later }
def SeriesComposesUptoCardSaid : Prop := Claim7.holds Tryd.pinned (.plain (OpenSpec.upto seriesComposesSpec)) seriesComposesUptoCard

/-- THE SECOND FORM's CARD OF 'cayleylaw.SeriesNilpotent'. -/
def seriesNilpotentUptoCard : Claim7 := { stood := { row := seriesNilpotentUptoRow, standIns := [], harness := (true, "ad936e95bdb2f45a3eccc2c0061b2a856a5ad448996d11c7800ba6935590665e"), looks := false }, kinds := [], alts := [], laidByText := true, laidKinds := [.data], laidTests := true, laidLooks := .later }
def SeriesNilpotentUptoCardSaid : Prop := Claim7.holds Tryd.pinned (.plain (OpenSpec.upto seriesNilpotentSpec)) seriesNilpotentUptoCard

/-- THE SECOND FORM's CARD OF 'cayleylaw.SeriesNormal'. -/
def seriesNormalUptoCard : Claim7 := { stood := { row := seriesNormalUptoRow, standIns := [], harness := (true, "ad936e95bdb2f45a3eccc2c0061b2a856a5ad448996d11c7800ba6935590665e"), looks := false }, kinds := [], alts := [], laidByText := true, laidKinds := [.data], laidTests := true, laidLooks := .later }
def SeriesNormalUptoCardSaid : Prop := Claim7.holds Tryd.pinned (.plain (OpenSpec.upto seriesNormalSpec)) seriesNormalUptoCard

/-- THE SECOND FORM's CARD OF 'cayleylaw.SeriesGrow'. -/
def seriesGrowUptoCard : Claim7 := { stood := { row := seriesGrowUptoRow, standIns := [], harness := (true, "ad936e95bdb2f45a3eccc2c0061b2a856a5ad448996d11c7800ba6935590665e"), looks := false }, kinds := [], alts := [], laidByText := true, laidKinds := [.data], laidTests := true, laidLooks := .later }
def SeriesGrowUptoCardSaid : Prop := Claim7.holds Tryd.pinned (.plain (OpenSpec.upto seriesGrowSpec)) seriesGrowUptoCard
end Rows
end Go.Proofs.YtolbpjjjoafkkaaDoor
