/-
  DERIVED. GIVEN WITH THE SEED: THE CARDS: each row of YtelglfegpfhbpaaDoorRows.lean that lists a variable, with what it lists TIED to the program's text (the seventh form; the later family's looks); each row that meets fmt, with fmt's text TOLD by the authors' own Lean function (tested against real Go, not proved from fmt's source: count such statements apart). THE CARD IS WHAT COUNTS. Prove the row's statement (the work); the ties are given (YtelglfegpfhbpaaDoorTie.lean); close each card by the builder's one call (the guide's Derived/Test/ToyasCard.lean, 'card_holds'). Laid BY PROGRAM, IN A SANDBOX (cutbox-door.mjs). By AI agents, Wed Nov 11 2026. No macro, syntax, notation, axiom, sorry.
-/
import Derived.Test.YtelglfegpfhbpaaDoorRows
import GoSem.ClaimSeven
namespace Go.Proofs.YtelglfegpfhbpaaDoor
namespace Rows

/-- THE TIED CARD OF 'cayleylaw.SubAll'. -/
def subAllCard : Claim7 := { stood := { row := subAllRow, standIns := [], harness := (true, "d311f02ddda60be38f96b6edf3f08ef2411fc04362c242ad8d9370769cdad249"), looks := false }, kinds := [], alts := [], laidByText := true, laidKinds := [.data], laidTests := true, laidLooks := .later }
def SubAllCardSaid : Prop := Claim7.holds Tryd.pinned (.plain (OpenSpec.ofChange subAllSpec)) subAllCard

/-- THE TIED CARD OF 'cayleylaw.SubMeets'. -/
def subMeetsCard : Claim7 := { stood := { row := subMeetsRow, standIns := [], harness := (true, "d311f02ddda60be38f96b6edf3f08ef2411fc04362c242ad8d9370769cdad249"), looks := false }, kinds := [], alts := [], laidByText := true, laidKinds := [.data], laidTests := true, laidLooks := .later }
def SubMeetsCardSaid : Prop := Claim7.holds Tryd.pinned (.plain (OpenSpec.ofChange subMeetsSpec)) subMeetsCard

/-- THE TIED CARD OF 'cayleylaw.SubNeedless'. -/
def subNeedlessCard : Claim7 := { stood := { row := subNeedlessRow, standIns := [], harness := (true, "d311f02ddda60be38f96b6edf3f08ef2411fc04362c242ad8d9370769cdad249"), looks := false }, kinds := [], alts := [], laidByText := true, laidKinds := [.data], laidTests := true, laidLooks := .later }
def SubNeedlessCardSaid : Prop := Claim7.holds Tryd.pinned (.plain (OpenSpec.ofChange subNeedlessSpec)) subNeedlessCard

/-- THE TIED CARD OF 'cayleylaw.HomChecks'. -/
def homChecksCard : Claim7 := { stood := { row := homChecksRow, standIns := [], harness := (true, "d311f02ddda60be38f96b6edf3f08ef2411fc04362c242ad8d9370769cdad249"), looks := false }, kinds := [], alts := [], laidByText := true, laidKinds := [.data], laidTests := true, laidLooks := .later }
def HomChecksCardSaid : Prop := Claim7.holds Tryd.pinned (.plain (OpenSpec.ofChange homChecksSpec)) homChecksCard

/-- THE TIED CARD OF 'cayleylaw.HomExtends'. -/
def homExtendsCard : Claim7 := { stood := { row := homExtendsRow, standIns := [], harness := (true, "d311f02ddda60be38f96b6edf3f08ef2411fc04362c242ad8d9370769cdad249"), looks := false }, kinds := [], alts := [], laidByText := true, laidKinds := [.data], laidTests := true, laidLooks := .later }
def HomExtendsCardSaid : Prop := Claim7.holds Tryd.pinned (.plain (OpenSpec.ofChange homExtendsSpec)) homExtendsCard

/-- THE TIED CARD OF 'cayleylaw.HomAll'. -/
def homAllCard : Claim7 := { stood := { row := homAllRow, standIns := [], harness := (true, "d311f02ddda60be38f96b6edf3f08ef2411fc04362c242ad8d9370769cdad249"), looks := false }, kinds := [], alts := [], laidByText := true, laidKinds := [.data], laidTests := true, laidLooks := .later }
def HomAllCardSaid : Prop := Claim7.holds Tryd.pinned (.plain (OpenSpec.ofChange homAllSpec)) homAllCard

/-- THE TIED CARD OF 'cayleylaw.HomAutos'. -/
def homAutosCard : Claim7 := { stood := { row := homAutosRow, standIns := [], harness := (true, "d311f02ddda60be38f96b6edf3f08ef2411fc04362c242ad8d9370769cdad249"), looks := false }, kinds := [], alts := [], laidByText := true, laidKinds := [.data], laidTests := true, laidLooks := .later }
def HomAutosCardSaid : Prop := Claim7.holds Tryd.pinned (.plain (OpenSpec.ofChange homAutosSpec)) homAutosCard

/-- THE TIED CARD OF 'cayleylaw.HomTheorem'. -/
def homTheoremCard : Claim7 := { stood := { row := homTheoremRow, standIns := [], harness := (true, "d311f02ddda60be38f96b6edf3f08ef2411fc04362c242ad8d9370769cdad249"), looks := false }, kinds := [], alts := [], laidByText := true, laidKinds := [.data], laidTests := true, laidLooks := .later }
def HomTheoremCardSaid : Prop := Claim7.holds Tryd.pinned (.plain (OpenSpec.ofChange homTheoremSpec)) homTheoremCard

/-- THE TIED CARD OF 'cayleylaw.HomInner'. -/
def homInnerCard : Claim7 := { stood := { row := homInnerRow, standIns := [], harness := (true, "d311f02ddda60be38f96b6edf3f08ef2411fc04362c242ad8d9370769cdad249"), looks := false }, kinds := [], alts := [], laidByText := true, laidKinds := [.data], laidTests := true, laidLooks := .later }
def HomInnerCardSaid : Prop := Claim7.holds Tryd.pinned (.plain (OpenSpec.ofChange homInnerSpec)) homInnerCard

/-- THE TIED CARD OF 'cayleylaw.HomOrders'. -/
def homOrdersCard : Claim7 := { stood := { row := homOrdersRow, standIns := [], harness := (true, "d311f02ddda60be38f96b6edf3f08ef2411fc04362c242ad8d9370769cdad249"), looks := false }, kinds := [], alts := [], laidByText := true, laidKinds := [.data], laidTests := true, laidLooks := .later }
def HomOrdersCardSaid : Prop := Claim7.holds Tryd.pinned (.plain (OpenSpec.ofChange homOrdersSpec)) homOrdersCard

/-- THE TIED CARD OF 'cayleylaw.HomComposes'. -/
def homComposesCard : Claim7 := { stood := { row := homComposesRow, standIns := [], harness := (true, "d311f02ddda60be38f96b6edf3f08ef2411fc04362c242ad8d9370769cdad249"), looks := false }, kinds := [], alts := [], laidByText := true, laidKinds := [.data], laidTests := true, laidLooks := .later }
def HomComposesCardSaid : Prop := Claim7.holds Tryd.pinned (.plain (OpenSpec.ofChange homComposesSpec)) homComposesCard

/-- THE TIED CARD OF 'cayleylaw.HomCyclic'. -/
def homCyclicCard : Claim7 := { stood := { row := homCyclicRow, standIns := [], harness := (true, "d311f02ddda60be38f96b6edf3f08ef2411fc04362c242ad8d9370769cdad249"), looks := false }, kinds := [], alts := [], laidByText := true, laidKinds := [.data], laidTests := true, laidLooks := .later }
def HomCyclicCardSaid : Prop := Claim7.holds Tryd.pinned (.plain (OpenSpec.ofChange homCyclicSpec)) homCyclicCard

/-- THE SECOND FORM's CARD OF 'cayleylaw.SubAll'. -/
def subAllUptoCard : Claim7 := { stood := { row := subAllUptoRow, standIns := [], harness := (true, "d311f02ddda60be38f96b6edf3f08ef2411fc04362c242ad8d9370769cdad249"), looks := false }, kinds := [], alts := [], laidByText := true, laidKinds := [.data], laidTests := true, laidLooks := .later }
def SubAllUptoCardSaid : Prop := Claim7.holds Tryd.pinned (.plain (OpenSpec.upto subAllSpec)) subAllUptoCard

/-- THE SECOND FORM's CARD OF 'cayleylaw.SubMeets'. -/
def subMeetsUptoCard : Claim7 := { stood := { row := subMeetsUptoRow, standIns := [], harness := (true, "d311f02ddda60be38f96b6edf3f08ef2411fc04362c242ad8d9370769cdad249"), looks := false }, kinds := [], alts := [], laidByText := true, laidKinds := [.data], laidTests := true, laidLooks := .later }
def SubMeetsUptoCardSaid : Prop := Claim7.holds Tryd.pinned (.plain (OpenSpec.upto subMeetsSpec)) subMeetsUptoCard

/-- THE SECOND FORM's CARD OF 'cayleylaw.SubNeedless'. -/
def subNeedlessUptoCard : Claim7 := { stood := { row := subNeedlessUptoRow, standIns := [], harness := (true, "d311f02ddda60be38f96b6edf3f08ef2411fc04362c242ad8d9370769cdad249"), looks := false }, kinds := [], alts := [], laidByText := true, laidKinds := [.data], laidTests := true, laidLooks := .later }
def SubNeedlessUptoCardSaid : Prop := Claim7.holds Tryd.pinned (.plain (OpenSpec.upto subNeedlessSpec)) subNeedlessUptoCard

/-- THE SECOND FORM's CARD OF 'cayleylaw.HomChecks'. -/
def homChecksUptoCard : Claim7 := { stood := { row := homChecksUptoRow, standIns := [], harness := (true, "d311f02ddda60be38f96b6edf3f08ef2411fc04362c242ad8d9370769cdad249"), looks := false }, kinds := [], alts := [], laidByText := true, laidKinds := [.data], laidTests := true, laidLooks := .later }
def HomChecksUptoCardSaid : Prop := Claim7.holds Tryd.pinned (.plain (OpenSpec.upto homChecksSpec)) homChecksUptoCard

/-- THE SECOND FORM's CARD OF 'cayleylaw.HomExtends'. -/
def homExtendsUptoCard : Claim7 := { stood := { row := homExtendsUptoRow, standIns := [], harness := (true, "d311f02ddda60be38f96b6edf3f08ef2411fc04362c242ad8d9370769cdad249"), looks := false }, kinds := [], alts := [], laidByText := true, laidKinds := [.data], laidTests := true, laidLooks := .later }
def HomExtendsUptoCardSaid : Prop := Claim7.holds Tryd.pinned (.plain (OpenSpec.upto homExtendsSpec)) homExtendsUptoCard

/-- THE SECOND FORM's CARD OF 'cayleylaw.HomAll'. -/
def homAllUptoCard : Claim7 := { stood := { row := homAllUptoRow, standIns := [], harness := (true, "d311f02ddda60be38f96b6edf3f08ef2411fc04362c242ad8d9370769cdad249"), looks := false }, kinds := [], alts := [], laidByText := true, laidKinds := [.data], laidTests := true, laidLooks := .later }
def HomAllUptoCardSaid : Prop := Claim7.holds Tryd.pinned (.plain (OpenSpec.upto homAllSpec)) homAllUptoCard

/-- THE SECOND FORM's CARD OF 'cayleylaw.HomAutos'. -/
def homAutosUptoCard : Claim7 := { stood := { row := homAutosUptoRow, standIns := [], harness := (true, "d311f02ddda60be38f96b6edf3f08ef2411fc04362c242ad8d9370769cdad249"), looks := false }, kinds := [], alts := [], laidByText := true, laidKinds := [.data], laidTests := true, laidLooks := .later }
def HomAutosUptoCardSaid : Prop := Claim7.holds Tryd.pinned (.plain (OpenSpec.upto homAutosSpec)) homAutosUptoCard

/-- THE SECOND FORM's CARD OF 'cayleylaw.HomTheorem'. -/
def homTheoremUptoCard : Claim7 := { stood := { row := homTheoremUptoRow, standIns := [], harness := (true, "d311f02ddda60be38f96b6edf3f08ef2411fc04362c242ad8d9370769cdad249"), looks := false }, kinds := [], alts := [], laidByText := true, laidKinds := [.data], laidTests := true, laidLooks := .later }
def HomTheoremUptoCardSaid : Prop := Claim7.holds Tryd.pinned (.plain (OpenSpec.upto homTheoremSpec)) homTheoremUptoCard

/-- THE SECOND FORM's CARD OF 'cayleylaw.HomInner'. -/
def homInnerUptoCard : Claim7 := { stood := { row := homInnerUptoRow, standIns := [], harness := (true, "d311f02ddda60be38f96b6edf3f08ef2411fc04362c242ad8d9370769cdad249"), looks := false }, kinds := [], alts := [], laidByText := true, laidKinds := [.data], laidTests := true, laidLooks := .later }
def HomInnerUptoCardSaid : Prop := Claim7.holds Tryd.pinned (.plain (OpenSpec.upto homInnerSpec)) homInnerUptoCard

/-- THE SECOND FORM's CARD OF 'cayleylaw.HomOrders'. -/
def homOrdersUptoCard : Claim7 := { stood := { row := homOrdersUptoRow, standIns := [], harness := (true, "d311f02ddda60be38f96b6edf3f08ef2411fc04362c242ad8d9370769cdad249"), looks := false }, kinds := [], alts := [], laidByText := true, laidKinds := [.data], laidTests := true, laidLooks := .later }
def HomOrdersUptoCardSaid : Prop := Claim7.holds Tryd.pinned (.plain (OpenSpec.upto homOrdersSpec)) homOrdersUptoCard

/-- THE SECOND FORM's CARD OF 'cayleylaw.HomComposes'. -/
def homComposesUptoCard : Claim7 := { stood := { row := homComposesUptoRow, standIns := [], harness := (true, "d311f02ddda60be38f96b6edf3f08ef2411fc04362c242ad8d9370769cdad249"), looks := false }, kinds := [], alts := [], laidByText := true, laidKinds := [.data], laidTests := true, laidLooks := .later }
def HomComposesUptoCardSaid : Prop := Claim7.holds Tryd.pinned (.plain (OpenSpec.upto homComposesSpec)) homComposesUptoCard

/-- THE SECOND FORM's CARD OF 'cayleylaw.HomCyclic'. -/
def homCyclicUptoCard : Claim7 := { stood := { row := homCyclicUptoRow, standIns := [], harness := (true, "d311f02ddda60be38f96b6edf3f08ef2411fc04362c242ad8d9370769cdad249"), looks := false }, kinds := [], alts := [], laidByText := true, laidKinds := [.data], laidTests := true, laidLooks := .later }
def HomCyclicUptoCardSaid : Prop := Claim7.holds Tryd.pinned (.plain (OpenSpec.upto homCyclicSpec)) homCyclicUptoCard
end Rows
end Go.Proofs.YtelglfegpfhbpaaDoor
