/-
  DERIVED. GIVEN WITH THE SEED: THE CARDS: each row of YtillgpbbbikkcaaDoorRows.lean that lists a variable, with what it lists TIED to the program's text (the seventh form; the later family's looks); each row that meets fmt, with fmt's text TOLD by the authors' own Lean function (tested against real Go, not proved from fmt's source: count such statements apart). THE CARD IS WHAT COUNTS. Prove the row's statement (the work); the ties are given (YtillgpbbbikkcaaDoorTie.lean); close each card by the builder's one call (the guide's Derived/Test/ToyasCard.lean, 'card_holds'). Laid BY PROGRAM, IN A SANDBOX (cutbox-door.mjs). By AI agents, Wed Nov 11 2026. No macro, syntax, notation, axiom, sorry.
-/
import Derived.Test.YtillgpbbbikkcaaDoorRows
import GoSem.ClaimSeven
namespace Go.Proofs.YtillgpbbbikkcaaDoor
namespace Rows

/-- THE TIED CARD OF 'cayleylaw.SubMakes'. -/
def subMakesCard : Claim7 := { stood := { row := subMakesRow, standIns := [], harness := (true, "b5fbabb6e2b88ccc20a9ff93ebddf5fd6b2ad16fd844df8187f469e0e2a83858"), looks := false }, kinds := [], alts := [], laidByText := true, laidKinds := [.data], laidTests := true, laidLooks := .later }
def SubMakesCardSaid : Prop := Claim7.holds Tryd.pinned (.plain (OpenSpec.ofChange subMakesSpec)) subMakesCard

/-- THE TIED CARD OF 'cayleylaw.SubAll'. -/
def subAllCard : Claim7 := { stood := { row := subAllRow, standIns := [], harness := (true, "b5fbabb6e2b88ccc20a9ff93ebddf5fd6b2ad16fd844df8187f469e0e2a83858"), looks := false }, kinds := [], alts := [], laidByText := true, laidKinds := [.data], laidTests := true, laidLooks := .later }
def SubAllCardSaid : Prop := Claim7.holds Tryd.pinned (.plain (OpenSpec.ofChange subAllSpec)) subAllCard

/-- THE TIED CARD OF 'cayleylaw.SubCentres'. -/
def subCentresCard : Claim7 := { stood := { row := subCentresRow, standIns := [], harness := (true, "b5fbabb6e2b88ccc20a9ff93ebddf5fd6b2ad16fd844df8187f469e0e2a83858"), looks := false }, kinds := [], alts := [], laidByText := true, laidKinds := [.data], laidTests := true, laidLooks := .later }
def SubCentresCardSaid : Prop := Claim7.holds Tryd.pinned (.plain (OpenSpec.ofChange subCentresSpec)) subCentresCard

/-- THE TIED CARD OF 'cayleylaw.SubNormal'. -/
def subNormalCard : Claim7 := { stood := { row := subNormalRow, standIns := [], harness := (true, "b5fbabb6e2b88ccc20a9ff93ebddf5fd6b2ad16fd844df8187f469e0e2a83858"), looks := false }, kinds := [], alts := [], laidByText := true, laidKinds := [.data], laidTests := true, laidLooks := .later }
def SubNormalCardSaid : Prop := Claim7.holds Tryd.pinned (.plain (OpenSpec.ofChange subNormalSpec)) subNormalCard

/-- THE TIED CARD OF 'cayleylaw.SubProducts'. -/
def subProductsCard : Claim7 := { stood := { row := subProductsRow, standIns := [], harness := (true, "b5fbabb6e2b88ccc20a9ff93ebddf5fd6b2ad16fd844df8187f469e0e2a83858"), looks := false }, kinds := [], alts := [], laidByText := true, laidKinds := [.data], laidTests := true, laidLooks := .later }
def SubProductsCardSaid : Prop := Claim7.holds Tryd.pinned (.plain (OpenSpec.ofChange subProductsSpec)) subProductsCard

/-- THE TIED CARD OF 'cayleylaw.SubDedekind'. -/
def subDedekindCard : Claim7 := { stood := { row := subDedekindRow, standIns := [], harness := (true, "b5fbabb6e2b88ccc20a9ff93ebddf5fd6b2ad16fd844df8187f469e0e2a83858"), looks := false }, kinds := [], alts := [], laidByText := true, laidKinds := [.data], laidTests := true, laidLooks := .later }
def SubDedekindCardSaid : Prop := Claim7.holds Tryd.pinned (.plain (OpenSpec.ofChange subDedekindSpec)) subDedekindCard

/-- THE TIED CARD OF 'cayleylaw.SubChains'. -/
def subChainsCard : Claim7 := { stood := { row := subChainsRow, standIns := [], harness := (true, "b5fbabb6e2b88ccc20a9ff93ebddf5fd6b2ad16fd844df8187f469e0e2a83858"), looks := false }, kinds := [], alts := [], laidByText := true, laidKinds := [.data], laidTests := true, laidLooks := .later }
def SubChainsCardSaid : Prop := Claim7.holds Tryd.pinned (.plain (OpenSpec.ofChange subChainsSpec)) subChainsCard

/-- THE TIED CARD OF 'cayleylaw.SubAbelian'. -/
def subAbelianCard : Claim7 := { stood := { row := subAbelianRow, standIns := [], harness := (true, "b5fbabb6e2b88ccc20a9ff93ebddf5fd6b2ad16fd844df8187f469e0e2a83858"), looks := false }, kinds := [], alts := [], laidByText := true, laidKinds := [.data], laidTests := true, laidLooks := .later }
def SubAbelianCardSaid : Prop := Claim7.holds Tryd.pinned (.plain (OpenSpec.ofChange subAbelianSpec)) subAbelianCard

/-- THE TIED CARD OF 'cayleylaw.SubMeets'. -/
def subMeetsCard : Claim7 := { stood := { row := subMeetsRow, standIns := [], harness := (true, "b5fbabb6e2b88ccc20a9ff93ebddf5fd6b2ad16fd844df8187f469e0e2a83858"), looks := false }, kinds := [], alts := [], laidByText := true, laidKinds := [.data], laidTests := true, laidLooks := .later }
def SubMeetsCardSaid : Prop := Claim7.holds Tryd.pinned (.plain (OpenSpec.ofChange subMeetsSpec)) subMeetsCard

/-- THE TIED CARD OF 'cayleylaw.SubNeedless'. -/
def subNeedlessCard : Claim7 := { stood := { row := subNeedlessRow, standIns := [], harness := (true, "b5fbabb6e2b88ccc20a9ff93ebddf5fd6b2ad16fd844df8187f469e0e2a83858"), looks := false }, kinds := [], alts := [], laidByText := true, laidKinds := [.data], laidTests := true, laidLooks := .later }
def SubNeedlessCardSaid : Prop := Claim7.holds Tryd.pinned (.plain (OpenSpec.ofChange subNeedlessSpec)) subNeedlessCard

/-- THE SECOND FORM's CARD OF 'cayleylaw.SubMakes'. -/
def subMakesUptoCard : Claim7 := { stood := { row := subMakesUptoRow, standIns := [], harness := (true, "b5fbabb6e2b88ccc20a9ff93ebddf5fd6b2ad16fd844df8187f469e0e2a83858"), looks := false }, kinds := [], alts := [], laidByText := true, laidKinds := [.data], laidTests := true, laidLooks := .later }
def SubMakesUptoCardSaid : Prop := Claim7.holds Tryd.pinned (.plain (OpenSpec.upto subMakesSpec)) subMakesUptoCard

/-- THE SECOND FORM's CARD OF 'cayleylaw.SubAll'. -/
def subAllUptoCard : Claim7 := { stood := { row := subAllUptoRow, standIns := [], harness := (true, "b5fbabb6e2b88ccc20a9ff93ebddf5fd6b2ad16fd844df8187f469e0e2a83858"), looks := false }, kinds := [], alts := [], laidByText := true, laidKinds := [.data], laidTests := true, laidLooks := .later }
def SubAllUptoCardSaid : Prop := Claim7.holds Tryd.pinned (.plain (OpenSpec.upto subAllSpec)) subAllUptoCard

/-- THE SECOND FORM's CARD OF 'cayleylaw.SubCentres'. -/
def subCentresUptoCard : Claim7 := { stood := { row := subCentresUptoRow, standIns := [], harness := (true, "b5fbabb6e2b88ccc20a9ff93ebddf5fd6b2ad16fd844df8187f469e0e2a83858"), looks := false }, kinds := [], alts := [], laidByText := true, laidKinds := [.data], laidTests := true, laidLooks := .later }
def SubCentresUptoCardSaid : Prop := Claim7.holds Tryd.pinned (.plain (OpenSpec.upto subCentresSpec)) subCentresUptoCard

/-- THE SECOND FORM's CARD OF 'cayleylaw.SubNormal'. -/
def subNormalUptoCard : Claim7 := { stood := { row := subNormalUptoRow, standIns := [], harness := (true, "b5fbabb6e2b88ccc20a9ff93ebddf5fd6b2ad16fd844df8187f469e0e2a83858"), looks := false }, kinds := [], alts := [], laidByText := true, laidKinds := [.data], laidTests := true, laidLooks := .later }
def SubNormalUptoCardSaid : Prop := Claim7.holds Tryd.pinned (.plain (OpenSpec.upto subNormalSpec)) subNormalUptoCard

/-- THE SECOND FORM's CARD OF 'cayleylaw.SubProducts'. -/
def subProductsUptoCard : Claim7 := { stood := { row := subProductsUptoRow, standIns := [], harness := (true, "b5fbabb6e2b88ccc20a9ff93ebddf5fd6b2ad16fd844df8187f469e0e2a83858"), looks := false }, kinds := [], alts := [], laidByText := true, laidKinds := [.data], laidTests := true, laidLooks := .later }
def SubProductsUptoCardSaid : Prop := Claim7.holds Tryd.pinned (.plain (OpenSpec.upto subProductsSpec)) subProductsUptoCard

/-- THE SECOND FORM's CARD OF 'cayleylaw.SubDedekind'. -/
def subDedekindUptoCard : Claim7 := { stood := { row := subDedekindUptoRow, standIns := [], harness := (true, "b5fbabb6e2b88ccc20a9ff93ebddf5fd6b2ad16fd844df8187f469e0e2a83858"), looks := false }, kinds := [], alts := [], laidByText := true, laidKinds := [.data], laidTests := true, laidLooks := .later }
def SubDedekindUptoCardSaid : Prop := Claim7.holds Tryd.pinned (.plain (OpenSpec.upto subDedekindSpec)) subDedekindUptoCard

/-- THE SECOND FORM's CARD OF 'cayleylaw.SubChains'. -/
def subChainsUptoCard : Claim7 := { stood := { row := subChainsUptoRow, standIns := [], harness := (true, "b5fbabb6e2b88ccc20a9ff93ebddf5fd6b2ad16fd844df8187f469e0e2a83858"), looks := false }, kinds := [], alts := [], laidByText := true, laidKinds := [.data], laidTests := true, laidLooks := .later }
def SubChainsUptoCardSaid : Prop := Claim7.holds Tryd.pinned (.plain (OpenSpec.upto subChainsSpec)) subChainsUptoCard

/-- THE SECOND FORM's CARD OF 'cayleylaw.SubAbelian'. -/
def subAbelianUptoCard : Claim7 := { stood := { row := subAbelianUptoRow, standIns := [], harness := (true, "b5fbabb6e2b88ccc20a9ff93ebddf5fd6b2ad16fd844df8187f469e0e2a83858"), looks := false }, kinds := [], alts := [], laidByText := true, laidKinds := [.data], laidTests := true, laidLooks := .later }
def SubAbelianUptoCardSaid : Prop := Claim7.holds Tryd.pinned (.plain (OpenSpec.upto subAbelianSpec)) subAbelianUptoCard

/-- THE SECOND FORM's CARD OF 'cayleylaw.SubMeets'. -/
def subMeetsUptoCard : Claim7 := { stood := { row := subMeetsUptoRow, standIns := [], harness := (true, "b5fbabb6e2b88ccc20a9ff93ebddf5fd6b2ad16fd844df8187f469e0e2a83858"), looks := false }, kinds := [], alts := [], laidByText := true, laidKinds := [.data], laidTests := true, laidLooks := .later }
def SubMeetsUptoCardSaid : Prop := Claim7.holds Tryd.pinned (.plain (OpenSpec.upto subMeetsSpec)) subMeetsUptoCard

/-- THE SECOND FORM's CARD OF 'cayleylaw.SubNeedless'. -/
def subNeedlessUptoCard : Claim7 := { stood := { row := subNeedlessUptoRow, standIns := [], harness := (true, "b5fbabb6e2b88ccc20a9ff93ebddf5fd6b2ad16fd844df8187f469e0e2a83858"), looks := false }, kinds := [], alts := [], laidByText := true, laidKinds := [.data], laidTests := true, laidLooks := .later }
def SubNeedlessUptoCardSaid : Prop := Claim7.holds Tryd.pinned (.plain (OpenSpec.upto subNeedlessSpec)) subNeedlessUptoCard
end Rows
end Go.Proofs.YtillgpbbbikkcaaDoor
