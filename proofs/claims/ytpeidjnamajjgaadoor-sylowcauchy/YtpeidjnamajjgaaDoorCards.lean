/-
  DERIVED. GIVEN WITH THE SEED: THE CARDS: each row of YtpeidjnamajjgaaDoorRows.lean that lists a variable, with what it lists TIED to the program's text (the seventh form; the later family's looks); each row that meets fmt, with fmt's text TOLD by the authors' own Lean function (tested against real Go, not proved from fmt's source: count such statements apart). THE CARD IS WHAT COUNTS. Prove the row's statement (the work); the ties are given (YtpeidjnamajjgaaDoorTie.lean); close each card by the builder's one call (the guide's Derived/Test/ToyasCard.lean, 'card_holds'). Laid BY PROGRAM, IN A SANDBOX (cutbox-door.mjs). By AI agents, Wed Nov 11 2026. No macro, syntax, notation, axiom, sorry.
-/
import Derived.Test.YtpeidjnamajjgaaDoorRows
import GoSem.ClaimSeven
namespace Go.Proofs.YtpeidjnamajjgaaDoor
namespace Rows

/-- THE TIED CARD OF 'cayleylaw.SylowCauchy'. -/
def sylowCauchyCard : Claim7 := { stood := { row := sylowCauchyRow, standIns := [], harness := (true, "74d36e045309864195b5fa5bfaf0ab84347c6bb09e5057acbb4f99fd26aca9bb"), looks := false }, kinds := [], alts := [], laidByText := true, laidKinds := [.data], laidTests := true, laidLooks := .later }
def SylowCauchyCardSaid : Prop := Claim7.holds Tryd.pinned (.plain (OpenSpec.ofChange sylowCauchySpec)) sylowCauchyCard

/-- THE TIED CARD OF 'cayleylaw.SylowAll'. -/
def sylowAllCard : Claim7 := { stood := { row := sylowAllRow, standIns := [], harness := (true, "74d36e045309864195b5fa5bfaf0ab84347c6bb09e5057acbb4f99fd26aca9bb"), looks := false }, kinds := [], alts := [], laidByText := true, laidKinds := [.data], laidTests := true, laidLooks := .later }
def SylowAllCardSaid : Prop := Claim7.holds Tryd.pinned (.plain (OpenSpec.ofChange sylowAllSpec)) sylowAllCard

/-- THE TIED CARD OF 'cayleylaw.SylowHolds'. -/
def sylowHoldsCard : Claim7 := { stood := { row := sylowHoldsRow, standIns := [], harness := (true, "74d36e045309864195b5fa5bfaf0ab84347c6bb09e5057acbb4f99fd26aca9bb"), looks := false }, kinds := [], alts := [], laidByText := true, laidKinds := [.data], laidTests := true, laidLooks := .later }
def SylowHoldsCardSaid : Prop := Claim7.holds Tryd.pinned (.plain (OpenSpec.ofChange sylowHoldsSpec)) sylowHoldsCard

/-- THE TIED CARD OF 'cayleylaw.SylowFrattini'. -/
def sylowFrattiniCard : Claim7 := { stood := { row := sylowFrattiniRow, standIns := [], harness := (true, "74d36e045309864195b5fa5bfaf0ab84347c6bb09e5057acbb4f99fd26aca9bb"), looks := false }, kinds := [], alts := [], laidByText := true, laidKinds := [.data], laidTests := true, laidLooks := .later }
def SylowFrattiniCardSaid : Prop := Claim7.holds Tryd.pinned (.plain (OpenSpec.ofChange sylowFrattiniSpec)) sylowFrattiniCard

/-- THE TIED CARD OF 'cayleylaw.SylowQuotients'. -/
def sylowQuotientsCard : Claim7 := { stood := { row := sylowQuotientsRow, standIns := [], harness := (true, "74d36e045309864195b5fa5bfaf0ab84347c6bb09e5057acbb4f99fd26aca9bb"), looks := false }, kinds := [], alts := [], laidByText := true, laidKinds := [.data], laidTests := true, laidLooks := .later }
def SylowQuotientsCardSaid : Prop := Claim7.holds Tryd.pinned (.plain (OpenSpec.ofChange sylowQuotientsSpec)) sylowQuotientsCard

/-- THE TIED CARD OF 'cayleylaw.SylowPowers'. -/
def sylowPowersCard : Claim7 := { stood := { row := sylowPowersRow, standIns := [], harness := (true, "74d36e045309864195b5fa5bfaf0ab84347c6bb09e5057acbb4f99fd26aca9bb"), looks := false }, kinds := [], alts := [], laidByText := true, laidKinds := [.data], laidTests := true, laidLooks := .later }
def SylowPowersCardSaid : Prop := Claim7.holds Tryd.pinned (.plain (OpenSpec.ofChange sylowPowersSpec)) sylowPowersCard

/-- THE SECOND FORM's CARD OF 'cayleylaw.SylowCauchy'. -/
def sylowCauchyUptoCard : Claim7 := { stood := { row := sylowCauchyUptoRow, standIns := [], harness := (true, "74d36e045309864195b5fa5bfaf0ab84347c6bb09e5057acbb4f99fd26aca9bb"), looks := false }, kinds := [], alts := [], laidByText := true, laidKinds := [.data], laidTests := true, laidLooks := .later }
def SylowCauchyUptoCardSaid : Prop := Claim7.holds Tryd.pinned (.plain (OpenSpec.upto sylowCauchySpec)) sylowCauchyUptoCard

/-- THE SECOND FORM's CARD OF 'cayleylaw.SylowAll'. -/
def sylowAllUptoCard : Claim7 := { stood := { row := sylowAllUptoRow, standIns := [], harness := (true, "74d36e045309864195b5fa5bfaf0ab84347c6bb09e5057acbb4f99fd26aca9bb"), looks := false }, kinds := [], alts := [], laidByText := true, laidKinds := [.data], laidTests := true, laidLooks := .later }
def SylowAllUptoCardSaid : Prop := Claim7.holds Tryd.pinned (.plain (OpenSpec.upto sylowAllSpec)) sylowAllUptoCard

/-- THE SECOND FORM's CARD OF 'cayleylaw.SylowHolds'. -/
def sylowHoldsUptoCard : Claim7 := { stood := { row := sylowHoldsUptoRow, standIns := [], harness := (true, "74d36e045309864195b5fa5bfaf0ab84347c6bb09e5057acbb4f99fd26aca9bb"), looks := false }, kinds := [], alts := [], laidByText := true, laidKinds := [.data], laidTests := true, laidLooks := .later }
def SylowHoldsUptoCardSaid : Prop := Claim7.holds Tryd.pinned (.plain (OpenSpec.upto sylowHoldsSpec)) sylowHoldsUptoCard

/-- THE SECOND FORM's CARD OF 'cayleylaw.SylowFrattini'. -/
def sylowFrattiniUptoCard : Claim7 := { stood := { row := sylowFrattiniUptoRow, standIns := [], harness := (true, "74d36e045309864195b5fa5bfaf0ab84347c6bb09e5057acbb4f99fd26aca9bb"), looks := false }, kinds := [], alts := [], laidByText := true, laidKinds := [.data], laidTests := true, laidLooks := .later }
def SylowFrattiniUptoCardSaid : Prop := Claim7.holds Tryd.pinned (.plain (OpenSpec.upto sylowFrattiniSpec)) sylowFrattiniUptoCard

/-- THE SECOND FORM's CARD OF 'cayleylaw.SylowQuotients'. -/
def sylowQuotientsUptoCard : Claim7 := { stood := { row := sylowQuotientsUptoRow, standIns := [], harness := (true, "74d36e045309864195b5fa5bfaf0ab84347c6bb09e5057acbb4f99fd26aca9bb"), looks := false }, kinds := [], alts := [], laidByText := true, laidKinds := [.data], laidTests := true, laidLooks := .later }
def SylowQuotientsUptoCardSaid : Prop := Claim7.holds Tryd.pinned (.plain (OpenSpec.upto sylowQuotientsSpec)) sylowQuotientsUptoCard

/-- THE SECOND FORM's CARD OF 'cayleylaw.SylowPowers'. -/
def sylowPowersUptoCard : Claim7 := { stood := { row := sylowPowersUptoRow, standIns := [], harness := (true, "74d36e045309864195b5fa5bfaf0ab84347c6bb09e5057acbb4f99fd26aca9bb"), looks := false }, kinds := [], alts := [], laidByText := true, laidKinds := [.data], laidTests := true, laidLooks := .later }
def SylowPowersUptoCardSaid : Prop := Claim7.holds Tryd.pinned (.plain (OpenSpec.upto sylowPowersSpec)) sylowPowersUptoCard
end Rows
end Go.Proofs.YtpeidjnamajjgaaDoor
