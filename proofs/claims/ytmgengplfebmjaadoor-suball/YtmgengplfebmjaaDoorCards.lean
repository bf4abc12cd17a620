/-
  DERIVED. GIVEN WITH THE SEED: THE CARDS: each row of YtmgengplfebmjaaDoorRows.lean that lists a variable, with what it lists TIED to the program's text (the seventh form; the later family's looks); each row that meets fmt, with fmt's text TOLD by the authors' own Lean function (tested against real Go, not proved from fmt's source: count such statements apart). THE CARD IS WHAT COUNTS. Prove the row's statement (the work); the ties are given (YtmgengplfebmjaaDoorTie.lean); close each card by the builder's one call (the guide's Derived/Test/ToyasCard.lean, 'card_holds'). Laid BY PROGRAM, IN A SANDBOX (cutbox-door.mjs). By AI agents, Wed Nov 11 2026. No macro, syntax, notation, axiom, sorry.
-/
import Derived.Test.YtmgengplfebmjaaDoorRows
import GoSem.ClaimSeven
namespace Go.Proofs.YtmgengplfebmjaaDoor
namespace Rows

/-- THE TIED CARD OF 'cayleylaw.SubAll'. -/
def subAllCard : Claim7 := { stood := { row := subAllRow, standIns := [], harness := (true, "a983d11aed1fa7259a7327bd5ecef6b1122625e02b7669d5eadcbb6fe6973b3e"), looks := false }, kinds := [], alts := [], laidByText := true, laidKinds := [.data], laidTests := true, laidLooks := .later }
def SubAllCardSaid : Prop := Claim7.holds Tryd.pinned (.plain (OpenSpec.ofChange subAllSpec)) subAllCard

/-- THE TIED CARD OF 'cayleylaw.HomExtends'. -/
def homExtendsCard : Claim7 := { stood := { row := homExtendsRow, standIns := [], harness := (true, "a983d11aed1fa7259a7327bd5ecef6b1122625e02b7669d5eadcbb6fe6973b3e"), looks := false }, kinds := [], alts := [], laidByText := true, laidKinds := [.data], laidTests := true, laidLooks := .later }
def HomExtendsCardSaid : Prop := Claim7.holds Tryd.pinned (.plain (OpenSpec.ofChange homExtendsSpec)) homExtendsCard

/-- THE TIED CARD OF 'cayleylaw.HomAll'. -/
def homAllCard : Claim7 := { stood := { row := homAllRow, standIns := [], harness := (true, "a983d11aed1fa7259a7327bd5ecef6b1122625e02b7669d5eadcbb6fe6973b3e"), looks := false }, kinds := [], alts := [], laidByText := true, laidKinds := [.data], laidTests := true, laidLooks := .later }
def HomAllCardSaid : Prop := Claim7.holds Tryd.pinned (.plain (OpenSpec.ofChange homAllSpec)) homAllCard

/-- THE TIED CARD OF 'cayleylaw.HomAutos'. -/
def homAutosCard : Claim7 := { stood := { row := homAutosRow, standIns := [], harness := (true, "a983d11aed1fa7259a7327bd5ecef6b1122625e02b7669d5eadcbb6fe6973b3e"), looks := false }, kinds := [], alts := [], laidByText := true, laidKinds := [.data], laidTests := true, laidLooks := .later }
def HomAutosCardSaid : Prop := Claim7.holds Tryd.pinned (.plain (OpenSpec.ofChange homAutosSpec)) homAutosCard

/-- THE TIED CARD OF 'cayleylaw.HomInner'. -/
def homInnerCard : Claim7 := { stood := { row := homInnerRow, standIns := [], harness := (true, "a983d11aed1fa7259a7327bd5ecef6b1122625e02b7669d5eadcbb6fe6973b3e"), looks := false }, kinds := [], alts := [], laidByText := true, laidKinds := [.data], laidTests := true, laidLooks := .later }
def HomInnerCardSaid : Prop := Claim7.holds Tryd.pinned (.plain (OpenSpec.ofChange homInnerSpec)) homInnerCard

/-- THE TIED CARD OF 'cayleylaw.HomCyclic'. -/
def homCyclicCard : Claim7 := { stood := { row := homCyclicRow, standIns := [], harness := (true, "a983d11aed1fa7259a7327bd5ecef6b1122625e02b7669d5eadcbb6fe6973b3e"), looks := false }, kinds := [], alts := [], laidByText := true, laidKinds := [.data], laidTests := true, laidLooks := .later }
def HomCyclicCardSaid : Prop := Claim7.holds Tryd.pinned (.plain (OpenSpec.ofChange homCyclicSpec)) homCyclicCard

/-- THE SECOND FORM's CARD OF 'cayleylaw.SubAll'. -/
def subAllUptoCard : Claim7 := { stood := { row := subAllUptoRow, standIns := [], harness := (true, "a983d11aed1fa7259a7327bd5ecef6b1122625e02b7669d5eadcbb6fe6973b3e"), looks := false }, kinds := [], alts := [], laidByText := true, laidKinds := [.data], laidTests := true, laidLooks := .later }
def SubAllUptoCardSaid : Prop := Claim7.holds Tryd.pinned (.plain (OpenSpec.upto subAllSpec)) subAllUptoCard

/-- THE SECOND FORM's CARD OF 'cayleylaw.HomExtends'. -/
def homExtendsUptoCard : Claim7 := { stood := { row := homExtendsUptoRow, standIns := [], harness := (true, "a983d11aed1fa7259a7327bd5ecef6b1122625e02b7669d5eadcbb6fe6973b3e"), looks := false }, kinds := [], alts := [], laidByText := true, laidKinds := [.data], laidTests := true, laidLooks := .later }
def HomExtendsUptoCardSaid : Prop := Claim7.holds Tryd.pinned (.plain (OpenSpec.upto homExtendsSpec)) homExtendsUptoCard

/-- THE SECOND FORM's CARD OF 'cayleylaw.HomAll'. -/
def homAllUptoCard : Claim7 := { stood := { row := homAllUptoRow, standIns := [], harness := (true, "a983d11aed1fa7259a7327bd5ecef6b1122625e02b7669d5eadcbb6fe6973b3e"), looks := false }, kinds := [], alts := [], laidByText := true, laidKinds := [.data], laidTests := true, laidLooks := .later }
def HomAllUptoCardSaid : Prop := Claim7.holds Tryd.pinned (.plain (OpenSpec.upto homAllSpec)) homAllUptoCard

/-- THE SECOND FORM's CARD OF 'cayleylaw.HomAutos'. -/
def homAutosUptoCard : Claim7 := { stood := { row := homAutosUptoRow, standIns := [], harness := (true, "a983d11aed1fa7259a7327bd5ecef6b1122625e02b7669d5eadcbb6fe6973b3e"), looks := false }, kinds := [], alts := [], laidByText := true, laidKinds := [.data], laidTests := true, laidLooks := .later }
def HomAutosUptoCardSaid : Prop := Claim7.holds Tryd.pinned (.plain (OpenSpec.upto homAutosSpec)) homAutosUptoCard

/-- THE SECOND FORM's CARD OF 'cayleylaw.HomInner'. -/
def homInnerUptoCard : Claim7 := { stood := { row := homInnerUptoRow, standIns := [], harness := (true, "a983d11aed1fa7259a7327bd5ecef6b1122625e02b7669d5eadcbb6fe6973b3e"), looks := false }, kinds := [], alts := [], laidByText := true, laidKinds := [.data], laidTests := true, laidLooks := .later }
def HomInnerUptoCardSaid : Prop := Claim7.holds Tryd.pinned (.plain (OpenSpec.upto homInnerSpec)) homInnerUptoCard

/-- THE SECOND FORM's CARD OF 'cayleylaw.HomCyclic'. -/
def homCyclicUptoCard : Claim7 := { stood := { row := homCyclicUptoRow, standIns := [], harness := (true, "a983d11aed1fa7259a7327bd5ecef6b1122625e02b7669d5eadcbb6fe6973b3e"), looks := false }, kinds := [], alts := [], laidByText := true, laidKinds := [.data], laidTests := true, laidLooks := .later }
def HomCyclicUptoCardSaid : Prop := Claim7.holds Tryd.pinned (.plain (OpenSpec.upto homCyclicSpec)) homCyclicUptoCard
end Rows
end Go.Proofs.YtmgengplfebmjaaDoor
